"""Points [17] and [18]: rows, keys and marks."""

import unittest

from surenear.errors import InvalidKey
from surenear.records.marks import check_key, mark_of, row_of
from surenear.records.record import Record

GREATEST = 4294967290
DIVISOR = 4294967291


def remainder(row, factor):
    s = 0
    for number in row:
        s = (s * factor + number + 1) % DIVISOR
    return s


class RowTest(unittest.TestCase):
    def test_smallest(self):
        self.assertEqual(row_of(1, Record("a", [7])), [1, 1, 97, 1, 7, 0, 0])

    def test_name(self):
        self.assertEqual(row_of(12, Record("b ~", [-1, 2])), [12, 3, 98, 32, 126, 2, -1, 2, 0, 0])
        self.assertEqual(row_of(0, Record("", [])), [0, 0, 0, 0, 0])

    def test_fields(self):
        record = Record("a", [0], fields=[("i", -5), ("tx", "hi"), ("e", ""), ("y", True), ("n", False)])
        self.assertEqual(row_of(3, record), [
            3, 1, 97, 1, 0, 5,
            1, 105, 0, -5,
            2, 116, 120, 1, 2, 104, 105,
            1, 101, 1, 0,
            1, 121, 2, 1,
            1, 110, 2, 0,
            0,
        ])

    def test_integers_and_flags_are_told_apart(self):
        rows = [row_of(1, Record("a", [0], fields=[("f", worth)])) for worth in (1, True, 0, False)]
        self.assertEqual(rows[0], [1, 1, 97, 1, 0, 1, 1, 102, 0, 1, 0])
        self.assertEqual(rows[1], [1, 1, 97, 1, 0, 1, 1, 102, 2, 1, 0])
        self.assertEqual(rows[2], [1, 1, 97, 1, 0, 1, 1, 102, 0, 0, 0])
        self.assertEqual(rows[3], [1, 1, 97, 1, 0, 1, 1, 102, 2, 0, 0])
        for row in rows:
            self.assertEqual({type(number) for number in row}, {int})

    def test_words(self):
        record = Record("a", [0], words=[("x", 1), ("yz", 300)])
        self.assertEqual(row_of(4, record), [4, 1, 97, 1, 0, 0, 2, 1, 120, 1, 2, 121, 122, 300])

    def test_all_together(self):
        record = Record("ab", [9, -9], fields=[("f", True)], words=[("w", 2)])
        self.assertEqual(row_of(5, record), [5, 2, 97, 98, 2, 9, -9, 1, 1, 102, 2, 1, 1, 1, 119, 2])

    def test_new_list_each_time(self):
        record = Record("a", [7])
        row = row_of(1, record)
        self.assertIs(type(row), list)
        row.append(5)
        self.assertEqual(row_of(1, record), [1, 1, 97, 1, 7, 0, 0])
        self.assertEqual(record, Record("a", [7]))


class KeyTest(unittest.TestCase):
    def test_bounds(self):
        for key in ((0, 0), (GREATEST, GREATEST), (0, GREATEST), (GREATEST, 0), (1, 2), [3, 4]):
            self.assertIsNone(check_key(key))

    def test_beyond(self):
        for key in ((-1, 0), (0, -1), (GREATEST + 1, 0), (0, GREATEST + 1), (-1, -1), (10 ** 20, 5), (5, -10 ** 20)):
            with self.subTest(key), self.assertRaises(InvalidKey):
                check_key(key)


class MarkTest(unittest.TestCase):
    def test_by_hand(self):
        # The row is 1, 1, 97, 1, 7, 0, 0.
        record = Record("a", [7])
        self.assertEqual(mark_of((0, 1), 1, record), (1, 114))
        # 2, 2*10+2 = 22, 220+98 = 318, 3182, 31828, 318281, 3182811
        self.assertEqual(mark_of((10, 0), 1, record), (3182811, 1))

    def test_by_the_row(self):
        record = Record("some name", [-128, 127], fields=[("i", -10 ** 25), ("f", False), ("t", "~")],
                        words=[("w", 2), ("x", 10 ** 12)])
        for key in ((0, 0), (1, GREATEST), (123456789, 4000000000), (GREATEST, GREATEST), (65537, 257)):
            for number in (1, 2, 10 ** 10):
                row = row_of(number, record)
                self.assertEqual(mark_of(key, number, record), (remainder(row, key[0]), remainder(row, key[1])))

    def test_is_a_tuple_of_remainders(self):
        record = Record("n", [-1], fields=[("i", -10 ** 30)])
        mark = mark_of([GREATEST, 7], 1, record)
        self.assertIs(type(mark), tuple)
        self.assertEqual(len(mark), 2)
        for number in mark:
            self.assertTrue(0 <= number <= GREATEST)

    def test_numbers_below_zero(self):
        # The last number of this row is -5, so with the factor 0 only it counts.
        self.assertEqual(mark_of((0, 0), 1, Record("a", [0], words=[("w", -5)])), (DIVISOR - 4, DIVISOR - 4))

    def test_each_part_of_a_record_counts(self):
        key = (31, 4000000001)
        records = [
            Record("a", [1]), Record("b", [1]), Record("a", [2]), Record("a", [1, 1]),
            Record("a", [1], fields=[("f", 1)]), Record("a", [1], fields=[("f", True)]),
            Record("a", [1], fields=[("f", "1")]), Record("a", [1], words=[("f", 1)]),
            Record("a", [1], words=[("f", 2)]),
        ]
        marks = [mark_of(key, number, record) for number in (1, 2) for record in records]
        self.assertEqual(len(set(marks)), len(marks))


if __name__ == "__main__":
    unittest.main()
