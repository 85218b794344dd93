"""Small numbers in rows."""
