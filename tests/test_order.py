"""Promise 6 (order), and the row ahead of it where order is concerned."""

import unittest

from smallrows.elementss import order

LEAST_INT = -2147483648
GREATEST_INT = 2147483647
WORDS = [10, 11, 12, 13, 20, 21, 22, 23]


def expected(low, high, x):
    answer = [0]
    for start in range(0, len(x), 8):
        for code, four in ((low, x[start:start + 4]), (high, x[start + 4:start + 8])):
            bits = bin(code)[2:].rjust(8, "0")
            # Bit 0 is the text's last sign.
            answer += [four[int(bits[6 - 2 * j:8 - 2 * j], 2)] for j in range(4)]
    return answer


class OneGroup(unittest.TestCase):
    def test_each_word_stays(self):
        self.assertEqual(order(1, 228, 228, WORDS), [0] + WORDS)

    def test_the_other_way_round(self):
        self.assertEqual(order(1, 27, 27, WORDS), [0, 13, 12, 11, 10, 23, 22, 21, 20])

    def test_all_the_first_or_all_the_last(self):
        self.assertEqual(order(1, 0, 0, WORDS), [0, 10, 10, 10, 10, 20, 20, 20, 20])
        self.assertEqual(order(1, 255, 255, WORDS), [0, 13, 13, 13, 13, 23, 23, 23, 23])

    def test_low_and_high_apart(self):
        self.assertEqual(order(1, 228, 27, WORDS), [0, 10, 11, 12, 13, 23, 22, 21, 20])
        self.assertEqual(order(1, 27, 228, WORDS), [0, 13, 12, 11, 10, 20, 21, 22, 23])
        self.assertEqual(order(1, 0, 255, WORDS), [0, 10, 10, 10, 10, 23, 23, 23, 23])
        self.assertEqual(order(1, 255, 0, WORDS), [0, 13, 13, 13, 13, 20, 20, 20, 20])

    def test_each_place_by_its_own_bits(self):
        # 1, 4, 16 and 64 move word 1 into one place alone.
        self.assertEqual(order(1, 1, 64, WORDS), [0, 11, 10, 10, 10, 20, 20, 20, 21])
        self.assertEqual(order(1, 4, 16, WORDS), [0, 10, 11, 10, 10, 20, 20, 21, 20])
        # 147 is 3, 0, 1, 2 from the lowest bits on; 57 is 1, 2, 3, 0.
        self.assertEqual(order(1, 147, 57, WORDS), [0, 13, 10, 11, 12, 21, 22, 23, 20])

    def test_every_code(self):
        for code in range(256):
            other = 255 - code * 7 % 256
            self.assertEqual(order(1, code, other, WORDS), expected(code, other, WORDS), code)
            self.assertEqual(order(1, other, code, WORDS), expected(other, code, WORDS), code)

    def test_greatest_words(self):
        x = [0, 65535, 0, 32768, 65535, 0, 255, 256]
        self.assertEqual(order(1, 27, 27, x), [0, 32768, 0, 65535, 0, 256, 255, 0, 65535])


class SeveralGroups(unittest.TestCase):
    def test_no_group_takes_anothers_words(self):
        x = list(range(100, 108)) + list(range(200, 208)) + list(range(300, 308))
        wanted = [100] * 4 + [107] * 4 + [200] * 4 + [207] * 4 + [300] * 4 + [307] * 4
        self.assertEqual(order(3, 0, 255, x), [0] + wanted)
        wanted = [103] * 4 + [104] * 4 + [203] * 4 + [204] * 4 + [303] * 4 + [304] * 4
        self.assertEqual(order(3, 255, 0, x), [0] + wanted)
        self.assertEqual(order(3, 228, 228, x), [0] + x)

    def test_every_code(self):
        x = list(range(1000, 1024))
        for code in range(256):
            other = 255 - code * 7 % 256
            self.assertEqual(order(3, code, other, x), expected(code, other, x), code)

    def test_as_many_groups_as_a_list_may_hold(self):
        x = [i * 7919 % 65536 for i in range(60000)]
        # Compared plainly: the difference of rows so long would take minutes to tell.
        self.assertTrue(order(7500, 147, 57, x) == expected(147, 57, x))

    def test_no_group(self):
        for code in (0, 27, 228, 255):
            self.assertEqual(order(0, code, 255 - code, []), [0])


class Refusals(unittest.TestCase):
    def test_n_out_of_range(self):
        for n in (-1, -2, LEAST_INT, 1048577, 1048578, GREATEST_INT):
            for code in (0, 228, 255):
                self.assertEqual(order(n, code, 228, []), [-1], (n, code))
                self.assertEqual(order(n, 228, code, []), [-1], (n, code))

    def test_low_or_high_out_of_range(self):
        for code in (-1, -2, 256, 257, 65535, LEAST_INT, GREATEST_INT):
            for n in (0, 1, 1048576):
                for other in (0, 228, 255):
                    self.assertEqual(order(n, code, other, []), [-1], (n, code, other))
                    self.assertEqual(order(n, other, code, []), [-1], (n, code, other))

    def test_several_out_of_range(self):
        self.assertEqual(order(0, -1, 256, []), [-1])
        self.assertEqual(order(-1, 256, 0, []), [-1])
        self.assertEqual(order(-1, 0, -1, []), [-1])
        self.assertEqual(order(1048577, 256, 256, []), [-1])
        self.assertEqual(order(LEAST_INT, LEAST_INT, LEAST_INT, []), [-1])
        self.assertEqual(order(GREATEST_INT, GREATEST_INT, GREATEST_INT, []), [-1])


if __name__ == "__main__":
    unittest.main()
