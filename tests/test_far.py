"""Promise 3 (far), and the row ahead of it where far is concerned."""

import unittest

from smallrows.elementss import far

LEAST_INT = -2147483648
GREATEST_INT = 2147483647


def apart(first, second):
    return sum(max(a, b) - min(a, b) for a, b in zip(first, second, strict=True))


def expected(x, y):
    answer = [0]
    for start in range(0, len(x), 8):
        group = x[start:start + 8]
        other = y[start:start + 8]
        answer += [apart(group[:4], other[0:4]), apart(group[:4], other[1:5])]
        answer += [apart(group[4:], other[2:6]), apart(group[4:], other[3:7])]
    return answer


class OneGroup(unittest.TestCase):
    def test_the_four_numbers_apart(self):
        # One byte of y alone isn't 0, so it shows in just those sums that reach its place.
        x = [0, 0, 0, 0, 0, 0, 0, 0]
        reached = [
            (0, [0, 9, 0, 0, 0]),
            (1, [0, 9, 9, 0, 0]),
            (2, [0, 9, 9, 9, 0]),
            (3, [0, 9, 9, 9, 9]),
            (4, [0, 0, 9, 9, 9]),
            (5, [0, 0, 0, 9, 9]),
            (6, [0, 0, 0, 0, 9]),
            (7, [0, 0, 0, 0, 0]),
        ]
        for place, wanted in reached:
            y = [0] * 8
            y[place] = 9
            self.assertEqual(far(1, x, y), wanted, place)

    def test_the_halves_of_x(self):
        y = [0] * 8
        for place in range(8):
            x = [0] * 8
            x[place] = 7
            wanted = [0, 7, 7, 0, 0] if place < 4 else [0, 0, 0, 7, 7]
            self.assertEqual(far(1, x, y), wanted, place)

    def test_each_sum_is_0_where_the_bytes_are_the_same(self):
        y = [1, 10, 30, 70, 150, 31, 200, 255]
        self.assertEqual(far(1, y[0:4] + y[2:6], y)[1::2], [0, 0])
        self.assertEqual(far(1, y[1:5] + y[3:7], y)[2::2], [0, 0])

    def test_written_out(self):
        x = [1, 2, 3, 4, 50, 60, 70, 80]
        y = [10, 20, 30, 40, 5, 6, 7, 8]
        # 9+18+27+36, 19+28+37+1, 20+20+65+74, 10+55+64+73
        self.assertEqual(far(1, x, y), [0, 90, 85, 179, 202])

    def test_either_may_be_above_within_one_sum(self):
        x = [10, 0, 10, 0, 200, 100, 200, 100]
        y = [0, 10, 0, 10, 0, 10, 0, 10]
        # Differences taken with their signs would cancel one another in the first sum.
        self.assertEqual(far(1, x, y), [0, 40, 0, 580, 580])
        self.assertEqual(far(1, [10, 0, 10, 0, 10, 0, 10, 0], [0, 10, 0, 10, 0, 10, 0, 10]), [0, 40, 0, 40, 0])

    def test_all_0_against_all_255(self):
        self.assertEqual(far(1, [0] * 8, [255] * 8), [0, 1020, 1020, 1020, 1020])
        self.assertEqual(far(1, [255] * 8, [0] * 8), [0, 1020, 1020, 1020, 1020])
        self.assertEqual(far(1, [0] * 8, [0] * 8), [0, 0, 0, 0, 0])
        self.assertEqual(far(1, [255] * 8, [255] * 8), [0, 0, 0, 0, 0])


class SeveralGroups(unittest.TestCase):
    def test_none_takes_anothers_bytes(self):
        x = [1] * 8 + [20] * 8 + [100] * 8
        y = [3] * 8 + [50] * 8 + [255] * 8
        self.assertEqual(far(3, x, y), [0] + [8] * 4 + [120] * 4 + [620] * 4)

    def test_one_group_differs_amid_others(self):
        for group in range(4):
            y = [0] * 32
            y[8 * group:8 * group + 8] = [255] * 8
            wanted = [0] * 17
            wanted[1 + 4 * group:5 + 4 * group] = [1020] * 4
            self.assertEqual(far(4, [0] * 32, y), wanted, group)

    def test_as_the_groups_one_by_one(self):
        x = [i * 37 % 256 for i in range(80)]
        y = [i * 101 % 256 for i in range(80)]
        wanted = [0]
        for start in range(0, 80, 8):
            wanted += far(1, x[start:start + 8], y[start:start + 8])[1:]
        self.assertEqual(far(10, x, y), wanted)
        self.assertEqual(far(10, x, y), expected(x, y))

    def test_as_many_groups_as_a_list_may_hold(self):
        x = [i * 7919 % 256 for i in range(100000)]
        y = [i * i % 251 for i in range(100000)]
        # Compared plainly: the difference of rows so long would take minutes to tell.
        self.assertTrue(far(12500, x, y) == expected(x, y))

    def test_no_group(self):
        self.assertEqual(far(0, [], []), [0])


class Refusals(unittest.TestCase):
    def test_n_out_of_range(self):
        for n in (-1, -2, LEAST_INT, 1048577, 1048578, GREATEST_INT):
            self.assertEqual(far(n, [], []), [-1], n)


if __name__ == "__main__":
    unittest.main()
