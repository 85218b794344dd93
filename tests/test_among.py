"""Promise 9 (among): it is never refused."""

import unittest

from smallrows.elementss import among

LETTERS = [97, 98, 99, 100, 101, 102, 103, 104, 105, 106, 107, 108, 109, 110, 111, 112]
NONE = [0] * 16


def filled(row):
    return row + [0] * (16 - len(row))


def expected(text, the_set):
    told = bytes(text).split(b"\0")[0]
    wanted = bytes(the_set).split(b"\0")[0]
    return [0] + filled([255 if wanted.count(byte) > 0 else 0 for byte in told])


class WithoutZero(unittest.TestCase):
    def test_all_16_are_among(self):
        self.assertEqual(among(LETTERS, LETTERS), [0] + [255] * 16)
        self.assertEqual(among(LETTERS, list(reversed(LETTERS))), [0] + [255] * 16)

    def test_none_is_among(self):
        self.assertEqual(among(LETTERS, [200 + i for i in range(16)]), [0] + NONE)

    def test_some_are_among(self):
        self.assertEqual(among(LETTERS, [98] * 15 + [112]), [0, 0, 255] + [0] * 13 + [255])

    def test_any_place_of_the_set_counts(self):
        for place in range(16):
            the_set = [1] * 16
            the_set[place] = 105
            self.assertEqual(among(LETTERS, the_set), [0] + [0] * 8 + [255] + [0] * 7, place)

    def test_any_place_of_the_text_is_told(self):
        for place in range(16):
            text = [1] * 16
            text[place] = 105
            wanted = [0] * 16
            wanted[place] = 255
            self.assertEqual(among(text, [105] * 16), [0] + wanted, place)

    def test_255_itself(self):
        self.assertEqual(among([255, 254] * 8, [255] * 16), [0] + [255, 0] * 8)
        self.assertEqual(among([255, 254] * 8, filled([255])), [0] + [255, 0] * 8)
        self.assertEqual(among([255] * 16, [254] * 16), [0] + NONE)


class ZeroInText(unittest.TestCase):
    def test_first(self):
        self.assertEqual(among([0] + LETTERS[1:], LETTERS), [0] + NONE)
        self.assertEqual(among(NONE, LETTERS), [0] + NONE)

    def test_last(self):
        self.assertEqual(among(LETTERS[:15] + [0], LETTERS), [0] + [255] * 15 + [0])

    def test_amid_with_others_behind(self):
        self.assertEqual(among(LETTERS[:5] + [0] + LETTERS[6:], LETTERS), [0] + [255] * 5 + [0] * 11)
        self.assertEqual(among([97, 1, 97, 0, 97, 0] + [97] * 10, [97] * 16), [0, 255, 0, 255] + [0] * 13)

    def test_every_place(self):
        for place in range(16):
            text = list(LETTERS)
            text[place] = 0
            self.assertEqual(among(text, LETTERS), [0] + [255] * place + [0] * (16 - place), place)


class ZeroInSet(unittest.TestCase):
    def test_first(self):
        self.assertEqual(among(LETTERS, [0] + LETTERS[1:]), [0] + NONE)
        self.assertEqual(among(LETTERS, NONE), [0] + NONE)

    def test_last(self):
        self.assertEqual(among(LETTERS, LETTERS[:15] + [0]), [0] + [255] * 15 + [0])

    def test_amid_with_others_behind(self):
        self.assertEqual(among(LETTERS, LETTERS[:5] + [0] + LETTERS[6:]), [0] + [255] * 5 + [0] * 11)
        self.assertEqual(among(LETTERS, [99, 0, 97, 98] + [100] * 12), [0, 0, 0, 255] + [0] * 13)

    def test_every_place(self):
        for place in range(16):
            the_set = list(LETTERS)
            the_set[place] = 0
            self.assertEqual(among(LETTERS, the_set), [0] + [255] * place + [0] * (16 - place), place)


class Both(unittest.TestCase):
    def test_zero_is_never_among(self):
        self.assertEqual(among(NONE, NONE), [0] + NONE)
        self.assertEqual(among(filled([97]), filled([97])), [0] + filled([255]))
        self.assertEqual(among([0] + [97] * 15, [0] + [97] * 15), [0] + NONE)

    def test_the_same_byte_several_times(self):
        text = filled([97, 98, 97, 97, 99, 98, 97])
        self.assertEqual(among(text, filled([97])), [0] + filled([255, 0, 255, 255, 0, 0, 255]))
        self.assertEqual(among(text, filled([98, 97, 98, 98, 97])), [0] + filled([255, 255, 255, 255, 0, 255, 255]))

    def test_the_text_may_be_longer_or_shorter_than_the_set(self):
        self.assertEqual(among(LETTERS, filled([97, 98])), [0] + filled([255, 255]))
        self.assertEqual(among(filled([98, 97]), LETTERS), [0] + filled([255, 255]))

    def test_every_place_of_either(self):
        for first in range(16):
            for second in range(16):
                text = [97 + i * 5 % 7 for i in range(16)]
                the_set = [97 + i * 3 % 11 for i in range(16)]
                text[first] = 0
                the_set[second] = 0
                self.assertEqual(among(text, the_set), expected(text, the_set), (first, second))

    def test_every_byte(self):
        for byte in range(256):
            text = [(byte + i) % 256 for i in range(16)]
            the_set = [(byte + i * 3) % 256 for i in range(16)]
            self.assertEqual(among(text, the_set), expected(text, the_set), byte)


if __name__ == "__main__":
    unittest.main()
