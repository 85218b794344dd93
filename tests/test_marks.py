"""Promise 8 (marks), and the row ahead of it where marks is concerned."""

import unittest

from smallrows.elementss import marks

LEAST_INT = -2147483648
GREATEST_INT = 2147483647
GREATEST = 4294967295


def expected(key, x):
    answer = [0]
    for start in range(0, len(x), 16):
        # Number 0 of the group is the lowest bit, so it is written last.
        bits = "".join("1" if number == key else "0" for number in reversed(x[start:start + 16]))
        answer += [int(bits, 2)] * 16
    return answer


class OneGroup(unittest.TestCase):
    def test_none_is_key(self):
        self.assertEqual(marks(1, 7, [0] * 16), [0] + [0] * 16)
        self.assertEqual(marks(1, 0, [1] * 16), [0] + [0] * 16)
        self.assertEqual(marks(1, GREATEST, [4294967294] * 16), [0] + [0] * 16)

    def test_one_is_key(self):
        wanted = [1, 2, 4, 8, 16, 32, 64, 128, 256, 512, 1024, 2048, 4096, 8192, 16384, 32768]
        for key, other in ((7, 8), (0, 1), (GREATEST, 0), (2147483648, 0), (65536, 0)):
            for j in range(16):
                x = [other] * 16
                x[j] = key
                self.assertEqual(marks(1, key, x), [0] + [wanted[j]] * 16, (key, j))

    def test_several_are_key(self):
        x = [5, 0, 5, 5, 1, 2, 3, 4, 6, 5, 7, 8, 9, 10, 11, 5]
        self.assertEqual(marks(1, 5, x), [0] + [1 + 4 + 8 + 512 + 32768] * 16)
        self.assertEqual(marks(1, 5, [5, 6] * 8), [0] + [21845] * 16)
        self.assertEqual(marks(1, 6, [5, 6] * 8), [0] + [43690] * 16)

    def test_all_are_key(self):
        for key in (0, 1, 7, 2147483648, GREATEST):
            self.assertEqual(marks(1, key, [key] * 16), [0] + [65535] * 16, key)

    def test_key_0_and_the_greatest(self):
        x = [0, GREATEST, 1, 4294967294] * 4
        self.assertEqual(marks(1, 0, x), [0] + [0x1111] * 16)
        self.assertEqual(marks(1, GREATEST, x), [0] + [0x2222] * 16)

    def test_the_whole_number_counts(self):
        x = [5, 261, 65541, 2147483653] * 4
        self.assertEqual(marks(1, 5, x), [0] + [0x1111] * 16)
        self.assertEqual(marks(1, 2147483653, x), [0] + [0x8888] * 16)


class SeveralGroups(unittest.TestCase):
    def test_groups_that_differ(self):
        x = [9] * 16 + [0] * 16 + [9] + [0] * 15 + [0] * 15 + [9]
        self.assertEqual(marks(4, 9, x), [0] + [65535] * 16 + [0] * 16 + [1] * 16 + [32768] * 16)

    def test_every_place_of_three_groups(self):
        for place in range(48):
            x = [3] * 48
            x[place] = GREATEST
            self.assertEqual(marks(3, GREATEST, x), expected(GREATEST, x), place)

    def test_as_many_groups_as_a_list_may_hold(self):
        x = [i * 7919 % 5 * 1073741823 for i in range(30000)]
        for key in (0, 1073741823, 4294967292, 5):
            # Compared plainly: the difference of rows so long would take minutes to tell.
            self.assertTrue(marks(1875, key, x) == expected(key, x), key)

    def test_no_group(self):
        for key in (0, 1, GREATEST):
            self.assertEqual(marks(0, key, []), [0], key)


class Refusals(unittest.TestCase):
    def test_n_out_of_range(self):
        for n in (-1, -2, LEAST_INT, 1048577, 1048578, GREATEST_INT):
            for key in (0, 1, GREATEST):
                self.assertEqual(marks(n, key, []), [-1], (n, key))

    def test_key_out_of_range(self):
        # The interface hands in no such key, but the row ahead of the promises says what would be answered.
        for key in (-1, -2, LEAST_INT, 4294967296, 4294967297, 18446744073709551616):
            for n in (0, 1, 1048576):
                self.assertEqual(marks(n, key, []), [-1], (n, key))

    def test_both_out_of_range(self):
        for n in (-1, LEAST_INT, 1048577, GREATEST_INT):
            for key in (-1, LEAST_INT, 4294967296):
                self.assertEqual(marks(n, key, []), [-1], (n, key))


if __name__ == "__main__":
    unittest.main()
