"""Promise 2 (less), and the row ahead of it where less is concerned."""

import unittest

from smallrows.elementss import less

LEAST_INT = -2147483648
GREATEST_INT = 2147483647
EDGES = (0, 1, 2, 127, 128, 129, 254, 255, 256, 257, 32766, 32767, 32768, 32769, 65533, 65534, 65535)


def expected(a, b, the_bytes, sign):
    signed = sign == 1
    first = int.from_bytes(a.to_bytes(the_bytes, "big"), "big", signed=signed)
    second = int.from_bytes(b.to_bytes(the_bytes, "big"), "big", signed=signed)
    lower = {(1, 0): 0, (1, 1): -128, (2, 0): 0, (2, 1): -32768}[the_bytes, sign]
    upper = {(1, 0): 255, (1, 1): 127, (2, 0): 65535, (2, 1): 32767}[the_bytes, sign]
    held = sorted((lower, first - second, upper))[1]
    return int.from_bytes(held.to_bytes(the_bytes, "big", signed=signed), "big")


class Unsigned(unittest.TestCase):
    def test_in_range(self):
        self.assertEqual(less(4, 1, 0, [5, 200, 9, 255], [3, 100, 9, 254]), [0, 2, 100, 0, 1])
        self.assertEqual(less(3, 2, 0, [500, 60000, 9], [300, 1, 9]), [0, 200, 59999, 0])

    def test_below_the_least(self):
        self.assertEqual(less(3, 1, 0, [3, 0, 254], [5, 1, 255]), [0, 0, 0, 0])
        self.assertEqual(less(3, 2, 0, [3, 0, 65534], [5, 1, 65535]), [0, 0, 0, 0])

    def test_edges_of_the_range(self):
        self.assertEqual(less(4, 1, 0, [0, 0, 255, 255], [0, 255, 0, 255]), [0, 0, 0, 255, 0])
        self.assertEqual(less(4, 2, 0, [0, 0, 65535, 65535], [0, 65535, 0, 65535]), [0, 0, 0, 65535, 0])

    def test_upper_half_is_not_below_zero(self):
        self.assertEqual(less(2, 1, 0, [200, 128], [1, 127]), [0, 199, 1])
        self.assertEqual(less(2, 2, 0, [40000, 32768], [1, 32767]), [0, 39999, 1])


class Signed(unittest.TestCase):
    def test_in_range(self):
        # 5 less 3, 3 less 5, -1 less -2, -1 less 1, 1 less -1
        self.assertEqual(less(5, 1, 1, [5, 3, 255, 255, 1], [3, 5, 254, 1, 255]), [0, 2, 254, 1, 254, 2])
        self.assertEqual(less(5, 2, 1, [5, 3, 65535, 65535, 1], [3, 5, 65534, 1, 65535]), [0, 2, 65534, 1, 65534, 2])

    def test_below_the_least(self):
        # the least less 1, the least less the greatest, -2 less the greatest
        self.assertEqual(less(3, 1, 1, [128, 128, 254], [1, 127, 127]), [0, 128, 128, 128])
        self.assertEqual(less(3, 2, 1, [32768, 32768, 65534], [1, 32767, 32767]), [0, 32768, 32768, 32768])

    def test_above_the_greatest(self):
        # the greatest less -1, the greatest less the least, 0 less the least
        self.assertEqual(less(3, 1, 1, [127, 127, 0], [255, 128, 128]), [0, 127, 127, 127])
        self.assertEqual(less(3, 2, 1, [32767, 32767, 0], [65535, 32768, 32768]), [0, 32767, 32767, 32767])

    def test_just_at_the_ends(self):
        # -1 less the greatest is the least; -1 less the least is the greatest
        self.assertEqual(less(2, 1, 1, [255, 255], [127, 128]), [0, 128, 127])
        self.assertEqual(less(2, 2, 1, [65535, 65535], [32767, 32768]), [0, 32768, 32767])

    def test_two_bytes_are_not_read_as_one(self):
        self.assertEqual(less(3, 2, 1, [128, 255, 256], [1, 0, 255]), [0, 127, 255, 1])


class AllKinds(unittest.TestCase):
    def test_no_pairs(self):
        for the_bytes in (1, 2):
            for sign in (0, 1):
                self.assertEqual(less(0, the_bytes, sign, [], []), [0], (the_bytes, sign))

    def test_every_pair_of_one_byte(self):
        for sign in (0, 1):
            for a in range(256):
                wanted = [0] + [expected(a, b, 1, sign) for b in range(256)]
                self.assertEqual(less(256, 1, sign, [a] * 256, list(range(256))), wanted)

    def test_edges_of_two_bytes(self):
        pairs = [(a, b) for a in EDGES for b in EDGES]
        x = [a for a, b in pairs]
        y = [b for a, b in pairs]
        for sign in (0, 1):
            wanted = [0] + [expected(a, b, 2, sign) for a, b in pairs]
            self.assertEqual(less(len(pairs), 2, sign, x, y), wanted)

    def test_as_many_pairs_as_a_list_may_hold(self):
        x = [i * 7919 % 65536 for i in range(60000)]
        y = [i * 104729 % 65536 for i in range(60000)]
        for sign in (0, 1):
            wanted = [0] + [expected(a, b, 2, sign) for a, b in zip(x, y)]
            # Compared plainly: the difference of rows so long would take minutes to tell.
            self.assertTrue(less(60000, 2, sign, x, y) == wanted, sign)


class Refusals(unittest.TestCase):
    def test_n_out_of_range(self):
        for n in (-1, -2, LEAST_INT, 1048577, GREATEST_INT):
            for the_bytes in (1, 2):
                for sign in (0, 1):
                    self.assertEqual(less(n, the_bytes, sign, [], []), [-1], (n, the_bytes, sign))

    def test_bytes_out_of_range(self):
        for the_bytes in (0, -1, -2, 3, 4, 8, 256, 257, LEAST_INT, GREATEST_INT):
            for n in (0, 1, 1048576):
                for sign in (0, 1):
                    self.assertEqual(less(n, the_bytes, sign, [], []), [-1], (n, the_bytes, sign))

    def test_sign_out_of_range(self):
        for sign in (-1, 2, 3, 256, 257, LEAST_INT, GREATEST_INT):
            for n in (0, 1, 1048576):
                for the_bytes in (1, 2):
                    self.assertEqual(less(n, the_bytes, sign, [], []), [-1], (n, the_bytes, sign))

    def test_several_out_of_range(self):
        self.assertEqual(less(-1, 0, 0, [], []), [-1])
        self.assertEqual(less(-1, 1, 2, [], []), [-1])
        self.assertEqual(less(0, 3, 2, [], []), [-1])
        self.assertEqual(less(1048577, 0, -1, [], []), [-1])
        self.assertEqual(less(LEAST_INT, LEAST_INT, LEAST_INT, [], []), [-1])
        self.assertEqual(less(GREATEST_INT, GREATEST_INT, GREATEST_INT, [], []), [-1])

    def test_greatest_n_is_not_refused(self):
        # Longer than the interface's lists, but the promise names this edge and the code must not refuse it.
        row = [3] * 1048576
        nothing = [0] * 1048576
        for sign in (0, 1):
            self.assertTrue(less(1048576, 1, sign, row, nothing) == [0] + row, sign)


if __name__ == "__main__":
    unittest.main()
