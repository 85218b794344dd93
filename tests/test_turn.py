"""Promise 5 (turn), and the row ahead of it where turn is concerned."""

import unittest

from smallrows.elementss import turn

LEAST_INT = -2147483648
GREATEST_INT = 2147483647
GREATEST = {4: 4294967295, 8: 18446744073709551615}
HIGHEST_BIT = {4: 2147483648, 8: 9223372036854775808}
SOME = {4: 0x12345678, 8: 0x123456789ABCDEF0}


def expected(number, by, the_bytes):
    """The number's bits as a text, the last one taken to the front as many times as by tells."""
    bits = bin(number)[2:].rjust(8 * the_bytes, "0")
    for step in range(by):
        bits = bits[-1] + bits[:-1]
    return int(bits, 2)


class Turns(unittest.TestCase):
    def test_by_0(self):
        for the_bytes in (4, 8):
            x = [0, 1, HIGHEST_BIT[the_bytes], SOME[the_bytes], GREATEST[the_bytes]]
            self.assertEqual(turn(5, the_bytes, x, [0] * 5), [0] + x)

    def test_by_1(self):
        x = [0, 1, 2, 3, 2147483648, 2147483649, 0x12345678, 4294967295]
        wanted = [0, 2147483648, 1, 2147483649, 1073741824, 3221225472, 0x091A2B3C, 4294967295]
        self.assertEqual(turn(8, 4, x, [1] * 8), [0] + wanted)
        x = [0, 1, 2, 3, 9223372036854775808, 9223372036854775809, 0x123456789ABCDEF0, 18446744073709551615]
        wanted = [0, 9223372036854775808, 1, 9223372036854775809, 4611686018427387904, 13835058055282163712]
        wanted += [0x091A2B3C4D5E6F78, 18446744073709551615]
        self.assertEqual(turn(8, 8, x, [1] * 8), [0] + wanted)

    def test_right_and_not_left(self):
        self.assertEqual(turn(1, 4, [0x12345678], [8]), [0, 0x78123456])
        self.assertEqual(turn(1, 8, [0x123456789ABCDEF0], [8]), [0, 0xF0123456789ABCDE])

    def test_by_one_less_than_once_round(self):
        # The same as by 1 the other way.
        self.assertEqual(turn(4, 4, [1, 2147483648, 0x12345678, 4294967295], [31] * 4),
                         [0, 2, 1, 0x2468ACF0, 4294967295])
        self.assertEqual(turn(4, 8, [1, 9223372036854775808, 0x123456789ABCDEF0, 18446744073709551615], [63] * 4),
                         [0, 2, 1, 0x2468ACF13579BDE0, 18446744073709551615])

    def test_once_round_and_more(self):
        for the_bytes in (4, 8):
            x = [0, 1, HIGHEST_BIT[the_bytes], SOME[the_bytes], GREATEST[the_bytes]]
            once = 8 * the_bytes
            self.assertEqual(turn(5, the_bytes, x, [once] * 5), [0] + x)
            self.assertEqual(turn(5, the_bytes, x, [once + 1] * 5), turn(5, the_bytes, x, [1] * 5))
            self.assertEqual(turn(5, the_bytes, x, [255] * 5), turn(5, the_bytes, x, [once - 1] * 5))
            self.assertEqual(turn(5, the_bytes, x, [128] * 5), [0] + x)

    def test_32_is_half_round_of_eight_bytes(self):
        self.assertEqual(turn(1, 8, [0x123456789ABCDEF0], [32]), [0, 0x9ABCDEF012345678])
        self.assertEqual(turn(1, 8, [1], [32]), [0, 4294967296])

    def test_each_by_its_own(self):
        self.assertEqual(turn(5, 4, [1] * 5, [0, 1, 31, 4, 33]), [0, 1, 2147483648, 2, 268435456, 2147483648])
        self.assertEqual(turn(3, 8, [1] * 3, [2, 0, 60]), [0, 4611686018427387904, 1, 16])

    def test_every_by(self):
        by = list(range(256))
        for the_bytes in (4, 8):
            highest = HIGHEST_BIT[the_bytes]
            for number in (0, 1, highest, highest + 1, SOME[the_bytes], GREATEST[the_bytes]):
                wanted = [0] + [expected(number, count, the_bytes) for count in by]
                self.assertEqual(turn(256, the_bytes, [number] * 256, by), wanted, (the_bytes, number))

    def test_as_many_numbers_as_a_list_may_hold(self):
        by = [i * 7919 % 256 for i in range(16000)]
        for the_bytes in (4, 8):
            x = [i * i * 11400714819323198485 % 2 ** (8 * the_bytes) for i in range(16000)]
            wanted = [0] + [expected(number, count, the_bytes) for number, count in zip(x, by)]
            # Compared plainly: the difference of rows so long would take minutes to tell.
            self.assertTrue(turn(16000, the_bytes, x, by) == wanted, the_bytes)

    def test_no_numbers(self):
        self.assertEqual(turn(0, 4, [], []), [0])
        self.assertEqual(turn(0, 8, [], []), [0])


class Refusals(unittest.TestCase):
    def test_n_out_of_range(self):
        for n in (-1, -2, LEAST_INT, 1048577, 1048578, GREATEST_INT):
            for the_bytes in (4, 8):
                self.assertEqual(turn(n, the_bytes, [], []), [-1], (n, the_bytes))

    def test_bytes_out_of_range(self):
        for the_bytes in (3, 5, 6, 7, 9, 0, 1, 2, -4, -8, 16, 32, 260, LEAST_INT, GREATEST_INT):
            for n in (0, 1, 5, 1048576):
                self.assertEqual(turn(n, the_bytes, [], []), [-1], (n, the_bytes))

    def test_both_out_of_range(self):
        for n in (-1, LEAST_INT, 1048577, GREATEST_INT):
            for the_bytes in (3, 9, 1, LEAST_INT, GREATEST_INT):
                self.assertEqual(turn(n, the_bytes, [], []), [-1], (n, the_bytes))


if __name__ == "__main__":
    unittest.main()
