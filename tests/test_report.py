"""Point [55]: report parts."""

import unittest

from surenear.records.record import Record
from surenear.search.report import ReportPart


def record(name="n"):
    return Record(name, [0])


class ReportPartTest(unittest.TestCase):
    def test_fields(self):
        left, numbers, records = [2, 0], [7, 8], [record("a"), record("b")]
        part = ReportPart(5, 1, left, numbers, records)
        for changed in (left, numbers, records):
            changed.clear()
        self.assertEqual((part.segment, part.partition), (5, 1))
        self.assertEqual((part.left, part.numbers, part.records), ((2, 0), (7, 8), (record("a"), record("b"))))
        self.assertEqual([type(told) for told in (part.left, part.numbers, part.records)], [tuple] * 3)

    def test_what_has_no_partner_is_kept(self):
        part = ReportPart(5, 1, (), [7, 8, 9], [record("a")])
        self.assertEqual((part.left, part.numbers, part.records), ((), (7, 8, 9), (record("a"),)))
        part = ReportPart(5, 1, [], [], [record("a"), record("b")])
        self.assertEqual((part.numbers, part.records), ((), (record("a"), record("b"))))

    def test_equality(self):
        def part(segment=5, partition=1, left=(2, 0), numbers=(7,), records=(Record("n", [0]),)):
            return ReportPart(segment, partition, left, numbers, records)

        self.assertTrue(part() == part(left=[2, 0], numbers=[7], records=[record()]))
        self.assertFalse(part() != part())
        for other in (part(segment=6), part(partition=0), part(left=(0, 2)), part(left=(2,)), part(numbers=(8,)), part(numbers=()),
                      part(numbers=(7, 8)), part(records=(record("m"),)), part(records=()), part(records=(record(), record())),
                      (5, 1, (2, 0), (7,), (record(),)), None, 5, object()):
            self.assertFalse(part() == other)
            self.assertTrue(part() != other)


if __name__ == "__main__":
    unittest.main()
