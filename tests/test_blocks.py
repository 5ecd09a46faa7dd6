"""Point [71]: blocks and their sums."""

import random
import unittest

from surenear.disks.blocks import block_of, read_blocks, sum_of

MODULUS = 4294967291


class SumTest(unittest.TestCase):
    def test_by_hand(self):
        self.assertEqual(sum_of([]), 0)
        self.assertEqual(sum_of([0]), 1)
        self.assertEqual(sum_of([5]), 6)
        self.assertEqual(sum_of([5, 7]), 6 * 257 + 8)
        self.assertEqual(sum_of((7, 5)), 8 * 257 + 6)
        self.assertEqual(sum_of([0, 0]), 258)

    def test_remainders(self):
        self.assertEqual(sum_of([MODULUS - 1]), 0)
        self.assertEqual(sum_of([MODULUS]), 1)
        self.assertEqual(sum_of([-1]), 0)
        self.assertEqual(sum_of([-2]), MODULUS - 1)
        self.assertEqual(sum_of([10 ** 30]), (10 ** 30 + 1) % MODULUS)

    def test_many(self):
        rng = random.Random(71)
        for _ in range(50):
            numbers = [rng.randint(-10 ** 12, 10 ** 12) for _ in range(rng.randint(0, 30))]
            s = 0
            for n in numbers:
                s = (s * 257 + n + 1) % MODULUS
            self.assertEqual(sum_of(numbers), s)


class BlockTest(unittest.TestCase):
    def test_block(self):
        self.assertEqual(block_of([]), [0, 0])
        self.assertEqual(block_of([5, 7]), [2, 6 * 257 + 8, 5, 7])
        self.assertEqual(block_of((-1,)), [1, 0, -1])

    def test_a_new_list(self):
        numbers = [1, 2]
        block = block_of(numbers)
        block.append(9)
        self.assertEqual((numbers, block_of(numbers)), ([1, 2], [2, 2 * 257 + 3, 1, 2]))
        self.assertIs(type(block_of((1, 2))), list)


class ReadTest(unittest.TestCase):
    def test_nothing(self):
        for numbers in ([], [0], [1], [-1, 0], [5, 5, 5], [0, 1], [-1, 0, 0, 0]):
            self.assertEqual(read_blocks(numbers), [])

    def test_several(self):
        lists = [[1, 2], [], [-7], [3] * 20, []]
        numbers = [number for told in lists for number in block_of(told)]
        self.assertEqual(read_blocks(numbers), lists)
        self.assertEqual(read_blocks(tuple(numbers)), lists)
        self.assertTrue(all(type(told) is list for told in read_blocks(tuple(numbers))))
        read = read_blocks(numbers)
        read[0].append(1)
        read.clear()
        self.assertEqual(read_blocks(numbers), lists)

    def test_up_to_the_first_place_where_none_begins(self):
        good = block_of([4, 4]) + block_of([])
        for rest in ([7], [7, 7], [-1, 0], [1, 0, 5] + block_of([1]), [0, 3] + block_of([1]), [3, 0, 1, 2]):
            self.assertEqual(read_blocks(good + rest), [[4, 4], []])

    def test_cuts(self):
        lists = [[1, 2], [], [-7], [3] * 5]
        blocks = [block_of(told) for told in lists]
        numbers = [number for block in blocks for number in block]
        for size in range(len(numbers) + 1):
            whole = 0
            while whole < len(blocks) and sum(len(block) for block in blocks[:whole + 1]) <= size:
                whole += 1
            self.assertEqual(read_blocks(numbers[:size]), lists[:whole])

    def test_one_number_changed(self):
        numbers = block_of([3, 1]) + block_of([2])
        for at in range(len(numbers)):
            for change in (-1, 1, 5):
                changed = list(numbers)
                changed[at] += change
                self.assertEqual(read_blocks(changed), [] if at < 4 else [[3, 1]], (at, change))

    def test_a_size_beyond_the_end(self):
        self.assertEqual(read_blocks([2, sum_of([1]), 1]), [])
        self.assertEqual(read_blocks([10 ** 30, sum_of([1]), 1]), [])


if __name__ == "__main__":
    unittest.main()
