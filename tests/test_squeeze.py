"""Promise 4 (squeeze), and the row ahead of it where squeeze is concerned."""

import unittest

from smallrows.elementss import squeeze

LEAST_INT = -2147483648
GREATEST_INT = 2147483647
ALL_BITS = 18446744073709551615
GREATEST_SIGNED = 9223372036854775807
LEAST_SIGNED = 9223372036854775808


def below_zero(number):
    """How a number below 0 is told in eight bytes."""
    return number + 18446744073709551616


def edges():
    near = [0, 127, 128, 255, 256, 32767, 32768, 65535, 65536, 2147483647, 2147483648, 4294967295, 4294967296]
    near += [GREATEST_SIGNED, LEAST_SIGNED, ALL_BITS]
    numbers = []
    for number in near:
        for step in (-2, -1, 0, 1, 2):
            numbers += [(number + step) % 2 ** 64, (step - number) % 2 ** 64]
    return numbers


def expected(number, the_bytes, way):
    eight = number.to_bytes(8, "little")
    if way == 0:
        return int.from_bytes(eight[:the_bytes], "little")
    signed = way == 1
    least = {1: -128, 2: -32768, 4: -2147483648}[the_bytes] if signed else 0
    greatest = {1: (255, 127), 2: (65535, 32767), 4: (4294967295, 2147483647)}[the_bytes][way % 2]
    held = sorted((least, int.from_bytes(eight, "little", signed=signed), greatest))[1]
    return int.from_bytes(held.to_bytes(the_bytes, "little", signed=signed), "little")


class LowestBytes(unittest.TestCase):
    def test_one_byte(self):
        x = [0, 5, 255, 256, 511, 0x123456789ABCDEF0, GREATEST_SIGNED, LEAST_SIGNED, ALL_BITS]
        self.assertEqual(squeeze(9, 1, 0, x), [0, 0, 5, 255, 0, 255, 0xF0, 255, 0, 255])

    def test_two_bytes(self):
        x = [0, 5, 65535, 65536, 131071, 0x123456789ABCDEF0, GREATEST_SIGNED, LEAST_SIGNED, ALL_BITS]
        self.assertEqual(squeeze(9, 2, 0, x), [0, 0, 5, 65535, 0, 65535, 0xDEF0, 65535, 0, 65535])

    def test_four_bytes(self):
        x = [0, 5, 4294967295, 4294967296, 8589934591, 0x123456789ABCDEF0, GREATEST_SIGNED, LEAST_SIGNED, ALL_BITS]
        wanted = [0, 5, 4294967295, 0, 4294967295, 0x9ABCDEF0, 4294967295, 0, 4294967295]
        self.assertEqual(squeeze(9, 4, 0, x), [0] + wanted)

    def test_below_zero(self):
        x = [below_zero(-128), below_zero(-129), below_zero(-32768), below_zero(-2147483649)]
        self.assertEqual(squeeze(4, 1, 0, x), [0, 128, 127, 0, 255])
        self.assertEqual(squeeze(4, 2, 0, x), [0, 65408, 65407, 32768, 65535])
        self.assertEqual(squeeze(4, 4, 0, x), [0, 4294967168, 4294967167, 4294934528, 2147483647])


class WithSigns(unittest.TestCase):
    def test_one_byte(self):
        x = [0, 5, 127, 128, 255, 256, GREATEST_SIGNED]
        self.assertEqual(squeeze(7, 1, 1, x), [0, 0, 5, 127, 127, 127, 127, 127])
        x = [below_zero(-1), below_zero(-5), below_zero(-128), below_zero(-129), below_zero(-256), LEAST_SIGNED]
        self.assertEqual(squeeze(6, 1, 1, x), [0, 255, 251, 128, 128, 128, 128])

    def test_two_bytes(self):
        x = [0, 128, 32767, 32768, 65535, 65536, GREATEST_SIGNED]
        self.assertEqual(squeeze(7, 2, 1, x), [0, 0, 128, 32767, 32767, 32767, 32767, 32767])
        x = [below_zero(-1), below_zero(-129), below_zero(-32768), below_zero(-32769), below_zero(-65536), LEAST_SIGNED]
        self.assertEqual(squeeze(6, 2, 1, x), [0, 65535, 65407, 32768, 32768, 32768, 32768])

    def test_four_bytes(self):
        x = [0, 32768, 2147483647, 2147483648, 4294967295, 4294967296, GREATEST_SIGNED]
        self.assertEqual(squeeze(7, 4, 1, x), [0, 0, 32768] + [2147483647] * 5)
        x = [below_zero(-1), below_zero(-32769), below_zero(-2147483648), below_zero(-2147483649), LEAST_SIGNED]
        self.assertEqual(squeeze(5, 4, 1, x), [0, 4294967295, 4294934527] + [2147483648] * 3)


class WithoutSigns(unittest.TestCase):
    def test_one_byte(self):
        x = [0, 5, 127, 128, 255, 256, GREATEST_SIGNED, LEAST_SIGNED, below_zero(-128), ALL_BITS]
        self.assertEqual(squeeze(10, 1, 2, x), [0, 0, 5, 127, 128] + [255] * 6)

    def test_two_bytes(self):
        x = [0, 256, 32767, 32768, 65535, 65536, GREATEST_SIGNED, LEAST_SIGNED, below_zero(-32768), ALL_BITS]
        self.assertEqual(squeeze(10, 2, 2, x), [0, 0, 256, 32767, 32768] + [65535] * 6)

    def test_four_bytes(self):
        x = [0, 65536, 2147483647, 2147483648, 4294967295, 4294967296, GREATEST_SIGNED, LEAST_SIGNED, ALL_BITS]
        self.assertEqual(squeeze(9, 4, 2, x), [0, 0, 65536, 2147483647, 2147483648] + [4294967295] * 5)


class AllWays(unittest.TestCase):
    def test_edges(self):
        x = edges()
        for the_bytes in (1, 2, 4):
            for way in (0, 1, 2):
                wanted = [0] + [expected(number, the_bytes, way) for number in x]
                self.assertEqual(squeeze(len(x), the_bytes, way, x), wanted, (the_bytes, way))

    def test_as_many_numbers_as_a_list_may_hold(self):
        x = [i * i * i * 11400714819323198485 % 2 ** 64 >> i % 64 for i in range(16000)]
        for the_bytes in (1, 2, 4):
            for way in (0, 1, 2):
                wanted = [0] + [expected(number, the_bytes, way) for number in x]
                # Compared plainly: the difference of rows so long would take minutes to tell.
                self.assertTrue(squeeze(16000, the_bytes, way, x) == wanted, (the_bytes, way))

    def test_no_numbers(self):
        for the_bytes in (1, 2, 4):
            for way in (0, 1, 2):
                self.assertEqual(squeeze(0, the_bytes, way, []), [0], (the_bytes, way))


class Refusals(unittest.TestCase):
    def test_n_out_of_range(self):
        for n in (-1, -2, LEAST_INT, 1048577, 1048578, GREATEST_INT):
            for the_bytes in (1, 2, 4):
                for way in (0, 1, 2):
                    self.assertEqual(squeeze(n, the_bytes, way, []), [-1], (n, the_bytes, way))

    def test_bytes_out_of_range(self):
        for the_bytes in (0, -1, -2, -4, 3, 5, 6, 8, 16, 257, LEAST_INT, GREATEST_INT):
            for n in (0, 1, 1048576):
                for way in (0, 1, 2):
                    self.assertEqual(squeeze(n, the_bytes, way, []), [-1], (n, the_bytes, way))

    def test_way_out_of_range(self):
        for way in (-1, -2, 3, 4, 256, 258, LEAST_INT, GREATEST_INT):
            for n in (0, 1, 1048576):
                for the_bytes in (1, 2, 4):
                    self.assertEqual(squeeze(n, the_bytes, way, []), [-1], (n, the_bytes, way))

    def test_several_out_of_range(self):
        self.assertEqual(squeeze(-1, 3, 0, []), [-1])
        self.assertEqual(squeeze(-1, 1, 3, []), [-1])
        self.assertEqual(squeeze(0, 8, 3, []), [-1])
        self.assertEqual(squeeze(1048577, 0, -1, []), [-1])
        self.assertEqual(squeeze(LEAST_INT, LEAST_INT, LEAST_INT, []), [-1])
        self.assertEqual(squeeze(GREATEST_INT, GREATEST_INT, GREATEST_INT, []), [-1])


if __name__ == "__main__":
    unittest.main()
