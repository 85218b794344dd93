"""Promise 1 (mean), and the row ahead of it where mean is concerned."""

import unittest

from smallrows.elementss import mean

LEAST_INT = -2147483648
GREATEST_INT = 2147483647


class Means(unittest.TestCase):
    def test_even_sums(self):
        self.assertEqual(mean(3, 1, [2, 10, 7], [4, 20, 7]), [0, 3, 15, 7])
        self.assertEqual(mean(3, 2, [2, 1000, 40000], [4, 3000, 60000]), [0, 3, 2000, 50000])

    def test_odd_sums_are_rounded_up(self):
        self.assertEqual(mean(4, 1, [0, 1, 2, 254], [1, 0, 5, 255]), [0, 1, 1, 4, 255])
        self.assertEqual(mean(4, 2, [0, 1, 255, 65534], [1, 0, 256, 65535]), [0, 1, 1, 256, 65535])

    def test_least_and_greatest_of_one_byte(self):
        self.assertEqual(mean(4, 1, [0, 0, 255, 255], [0, 255, 0, 255]), [0, 0, 128, 128, 255])

    def test_least_and_greatest_of_two_bytes(self):
        self.assertEqual(mean(4, 2, [0, 0, 65535, 65535], [0, 65535, 0, 65535]), [0, 0, 32768, 32768, 65535])

    def test_numbers_have_no_signs(self):
        self.assertEqual(mean(2, 1, [128, 127], [128, 128]), [0, 128, 128])
        self.assertEqual(mean(2, 2, [32768, 32767], [32768, 32768]), [0, 32768, 32768])

    def test_no_pairs(self):
        self.assertEqual(mean(0, 1, [], []), [0])
        self.assertEqual(mean(0, 2, [], []), [0])

    def test_one_pair(self):
        self.assertEqual(mean(1, 1, [9], [4]), [0, 7])

    def test_every_pair_of_one_byte(self):
        for a in range(256):
            answer = mean(256, 1, [a] * 256, list(range(256)))
            self.assertEqual(answer[0], 0)
            self.assertEqual(len(answer), 257)
            for b in range(256):
                self.assertIn(2 * answer[b + 1] - a - b, (0, 1))

    def test_as_many_pairs_as_a_list_may_hold(self):
        x = [i * 7919 % 65536 for i in range(60000)]
        y = [i * 104729 % 65536 for i in range(60000)]
        answer = mean(60000, 2, x, y)
        self.assertEqual(answer[0], 0)
        self.assertEqual(len(answer), 60001)
        for a, b, m in zip(x, y, answer[1:]):
            self.assertIn(2 * m - a - b, (0, 1))


class Refusals(unittest.TestCase):
    def test_n_out_of_range(self):
        for n in (-1, -2, LEAST_INT, 1048577, GREATEST_INT):
            for the_bytes in (1, 2):
                self.assertEqual(mean(n, the_bytes, [], []), [-1], (n, the_bytes))

    def test_bytes_out_of_range(self):
        for the_bytes in (0, -1, -2, 3, 4, 8, 256, 257, LEAST_INT, GREATEST_INT):
            for n in (0, 1, 5, 1048576):
                self.assertEqual(mean(n, the_bytes, [], []), [-1], (n, the_bytes))

    def test_both_out_of_range(self):
        for n in (-1, LEAST_INT, 1048577, GREATEST_INT):
            for the_bytes in (0, 3, LEAST_INT, GREATEST_INT):
                self.assertEqual(mean(n, the_bytes, [], []), [-1], (n, the_bytes))

    def test_greatest_n_is_not_refused(self):
        # Longer than the interface's lists, but the promise names this edge and the code must not refuse it.
        row = [3] * 1048576
        # Compared plainly: the difference of rows so long would take minutes to tell.
        self.assertTrue(mean(1048576, 1, row, row) == [0] + row)


if __name__ == "__main__":
    unittest.main()
