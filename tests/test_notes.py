"""Points [58], [59]: notes, segments, and what matches a note."""

import unittest

from surenear.facts.vectors import Norms
from surenear.ledger.note import Note, Segment
from surenear.records.marks import mark_of
from surenear.records.record import Record
from surenear.regions.region import Region

KEY = (17, 4242)


def note(name="a", number=3, mark=(1, 2), **more):
    return Note(name, number, mark, **more)


class NoteTest(unittest.TestCase):
    def test_fields(self):
        told = note()
        self.assertEqual((told.name, told.number, told.mark, told.died), ("a", 3, (1, 2), None))
        self.assertEqual((told.record, told.segment, told.leaves), (None, None, ()))
        leaves = [4, 0]
        told = note(died=9, record=Record("a", [1]), segment=5, leaves=leaves)
        leaves.append(7)
        self.assertEqual((told.died, told.record, told.segment, told.leaves), (9, Record("a", [1]), 5, (4, 0)))
        self.assertIs(type(told.leaves), tuple)

    def test_equality(self):
        whole = dict(died=9, record=Record("a", [1]), segment=5, leaves=(4, 0))
        self.assertTrue(note() == note())
        self.assertTrue(note(**whole) == note(**whole | {"leaves": [4, 0]}))
        self.assertFalse(note(**whole) != note(**whole))
        for other in (note("b", **whole), note(number=4, **whole), note(mark=(1, 3), **whole), note(mark=(2, 2), **whole),
                      note(**whole | {"died": None}), note(**whole | {"died": 8}), note(**whole | {"record": None}),
                      note(**whole | {"record": Record("a", [2])}), note(**whole | {"segment": None}),
                      note(**whole | {"segment": 6}), note(**whole | {"leaves": (0, 4)}), note(**whole | {"leaves": (4,)}),
                      ("a", 3, (1, 2)), None, 3, object()):
            self.assertFalse(note(**whole) == other)
            self.assertTrue(note(**whole) != other)

    def test_lives_at(self):
        for died, moments in ((None, [3, 4, 5, 6, 7, 100]), (4, [3]), (6, [3, 4, 5])):
            lived = [moment for moment in (0, 1, 2, 3, 4, 5, 6, 7, 100) if note(died=died).lives_at(moment) is True]
            self.assertEqual(lived, moments)
            for moment in (0, 2, 200):
                self.assertIs(type(note(died=died).lives_at(moment)), bool)

    def test_matches(self):
        record = Record("a", [1, 2], fields=[("i", 1)], words=[("w", 2)])
        told = note(mark=mark_of(KEY, 3, record), segment=4)
        self.assertIs(told.matches(KEY, 3, record), True)
        self.assertIs(told.matches(KEY, 3, Record("a", [1, 2], fields=[("i", 1)], words=[("w", 2)])), True)
        self.assertIs(told.matches(KEY, 4, record), False)
        self.assertIs(told.matches((17, 4243), 3, record), False)
        for other in (Record("b", [1, 2], fields=[("i", 1)], words=[("w", 2)]), Record("a", [1, 3], fields=[("i", 1)], words=[("w", 2)]),
                      Record("a", [1, 2], fields=[("i", True)], words=[("w", 2)]), Record("a", [1, 2], fields=[("i", 1)]),
                      Record("a", [1, 2, 0], fields=[("i", 1)], words=[("w", 2)])):
            self.assertIs(told.matches(KEY, 3, other), False)

    def test_all_three_must_be_the_same(self):
        record = Record("a", [1])
        # The number and the name count by themselves, too, whatever the mark.
        self.assertIs(Note("a", 4, mark_of(KEY, 3, record)).matches(KEY, 3, record), False)
        self.assertIs(Note("b", 3, mark_of(KEY, 3, record)).matches(KEY, 3, record), False)
        self.assertIs(Note("a", 3, mark_of(KEY, 4, record)).matches(KEY, 3, record), False)


class SegmentTest(unittest.TestCase):
    def test_fields(self):
        regions = [Region(None, []), Region(0, [])]
        partitions = [regions, [Region(None, [])]]
        segment = Segment(4, 7, partitions)
        regions.clear()
        partitions.clear()
        self.assertEqual((segment.number, segment.shard), (4, 7))
        self.assertEqual(segment.partitions, ((Region(None, []), Region(0, [])), (Region(None, []),)))
        self.assertEqual([type(told) for told in (segment.partitions, segment.partitions[0])], [tuple, tuple])

    def test_equality(self):
        def segment(number=4, shard=7, parents=(None, 0)):
            return Segment(number, shard, [[Region(parent, []) for parent in parents], []])

        self.assertTrue(segment() == segment())
        self.assertFalse(segment() != segment())
        for other in (segment(5), segment(4, 8), segment(7, 4), segment(parents=(None, None)), segment(parents=(None,)),
                      Segment(4, 7, [[Region(None, [Norms(0, 1)]), Region(0, [])], []]), Segment(4, 7, []), (4, 7), None, object()):
            self.assertFalse(segment() == other)
            self.assertTrue(segment() != other)


if __name__ == "__main__":
    unittest.main()
