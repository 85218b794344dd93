"""Promise 7 (slide), and the row ahead of it where slide is concerned."""

import unittest

from smallrows.elementss import slide

LEAST_INT = -2147483648
GREATEST_INT = 2147483647
GROUP = list(range(1, 17))


def slid(group, k):
    if k >= 0:
        return [0] * k + group[:16 - k]
    return group[-k:] + [0] * -k


def expected(k, x):
    answer = [0]
    for start in range(0, len(x), 16):
        answer += slid(x[start:start + 16], k)
    return answer


class OneGroup(unittest.TestCase):
    def test_by_0(self):
        self.assertEqual(slide(1, 0, GROUP), [0] + GROUP)

    def test_by_1(self):
        self.assertEqual(slide(1, 1, GROUP), [0, 0, 1, 2, 3, 4, 5, 6, 7, 8, 9, 10, 11, 12, 13, 14, 15])
        self.assertEqual(slide(1, -1, GROUP), [0, 2, 3, 4, 5, 6, 7, 8, 9, 10, 11, 12, 13, 14, 15, 16, 0])

    def test_between(self):
        self.assertEqual(slide(1, 5, GROUP), [0, 0, 0, 0, 0, 0, 1, 2, 3, 4, 5, 6, 7, 8, 9, 10, 11])
        self.assertEqual(slide(1, -5, GROUP), [0, 6, 7, 8, 9, 10, 11, 12, 13, 14, 15, 16, 0, 0, 0, 0, 0])
        self.assertEqual(slide(1, 8, GROUP), [0] + [0] * 8 + [1, 2, 3, 4, 5, 6, 7, 8])
        self.assertEqual(slide(1, -8, GROUP), [0] + [9, 10, 11, 12, 13, 14, 15, 16] + [0] * 8)

    def test_by_15(self):
        self.assertEqual(slide(1, 15, GROUP), [0] + [0] * 15 + [1])
        self.assertEqual(slide(1, -15, GROUP), [0] + [16] + [0] * 15)

    def test_by_16(self):
        self.assertEqual(slide(1, 16, GROUP), [0] + [0] * 16)
        self.assertEqual(slide(1, -16, GROUP), [0] + [0] * 16)

    def test_every_k(self):
        for group in (GROUP, [255] * 16, [0] * 16, [0] + [255] * 15, [255] * 15 + [0]):
            for k in range(-16, 17):
                self.assertEqual(slide(1, k, group), expected(k, group), k)


class SeveralGroups(unittest.TestCase):
    def test_no_byte_goes_into_another_group(self):
        x = [1] * 16 + [2] * 16 + [3] * 16
        self.assertEqual(slide(3, 1, x), [0] + [0] + [1] * 15 + [0] + [2] * 15 + [0] + [3] * 15)
        self.assertEqual(slide(3, -1, x), [0] + [1] * 15 + [0] + [2] * 15 + [0] + [3] * 15 + [0])
        self.assertEqual(slide(3, 15, x), [0] + [0] * 15 + [1] + [0] * 15 + [2] + [0] * 15 + [3])
        self.assertEqual(slide(3, -15, x), [0] + [1] + [0] * 15 + [2] + [0] * 15 + [3] + [0] * 15)
        self.assertEqual(slide(3, 16, x), [0] * 49)
        self.assertEqual(slide(3, -16, x), [0] * 49)
        self.assertEqual(slide(3, 0, x), [0] + x)

    def test_every_k(self):
        x = [i + 100 for i in range(64)]
        for k in range(-16, 17):
            self.assertEqual(slide(4, k, x), expected(k, x), k)

    def test_as_many_groups_as_a_list_may_hold(self):
        x = [i * 7919 % 256 for i in range(100000)]
        for k in (3, -7):
            # Compared plainly: the difference of rows so long would take minutes to tell.
            self.assertTrue(slide(6250, k, x) == expected(k, x), k)

    def test_no_group(self):
        for k in (0, 1, -1, 16, -16):
            self.assertEqual(slide(0, k, []), [0], k)


class Refusals(unittest.TestCase):
    def test_n_out_of_range(self):
        for n in (-1, -2, LEAST_INT, 1048577, 1048578, GREATEST_INT):
            for k in (0, 1, -1, 16, -16):
                self.assertEqual(slide(n, k, []), [-1], (n, k))

    def test_k_out_of_range(self):
        for k in (17, -17, 18, -18, 32, -32, 255, 256, -256, LEAST_INT, GREATEST_INT):
            for n in (0, 1, 5, 1048576):
                self.assertEqual(slide(n, k, []), [-1], (n, k))

    def test_both_out_of_range(self):
        for n in (-1, LEAST_INT, 1048577, GREATEST_INT):
            for k in (17, -17, LEAST_INT, GREATEST_INT):
                self.assertEqual(slide(n, k, []), [-1], (n, k))


if __name__ == "__main__":
    unittest.main()
