"""Promise 10 (take), and the row ahead of it where take is concerned."""

import unittest

from smallrows.elementss import take

LEAST_INT = -2147483648
GREATEST_INT = 2147483647


class Taken(unittest.TestCase):
    def test_no_group(self):
        self.assertEqual(take(0, []), [0])

    def test_one_group(self):
        x = list(range(64))
        self.assertEqual(take(1, x), [0] + x)
        self.assertEqual(take(1, [0] * 64), [0] * 65)
        self.assertEqual(take(1, [255] * 64), [0] + [255] * 64)

    def test_several_groups(self):
        x = list(range(256)) + list(range(255, 191, -1))
        self.assertEqual(take(5, x), [0] + x)
        x = [1] * 64 + [2] * 64 + [3] * 64
        self.assertEqual(take(3, x), [0] + x)

    def test_as_many_groups_as_a_list_may_hold(self):
        x = [i * 7919 % 256 for i in range(99968)]
        # Compared plainly: the difference of rows so long would take minutes to tell.
        self.assertTrue(take(1562, x) == [0] + x)

    def test_another_list_than_x(self):
        for n in (0, 1, 3):
            x = [i % 251 for i in range(64 * n)]
            before = list(x)
            answer = take(n, x)
            self.assertIsNot(answer, x)
            answer[0] = 9
            answer.append(7)
            self.assertEqual(x, before)
            x.append(5)
            self.assertEqual(answer, [9] + before + [7])


class Refusals(unittest.TestCase):
    def test_n_out_of_range(self):
        for n in (-1, -2, -64, LEAST_INT, 1048577, 1048578, GREATEST_INT):
            self.assertEqual(take(n, []), [-1], n)


if __name__ == "__main__":
    unittest.main()
