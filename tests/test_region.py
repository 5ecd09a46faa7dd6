"""Points [37] and [38]: partitions, regions, and the facts at a region."""

import unittest

from surenear.facts.contents import Names
from surenear.facts.vectors import Norms
from surenear.regions.region import Region, facts_at, is_partition, lies_in, tops, way_up


def partition(*parents):
    """Regions with these parents; each has two facts that tell its place."""
    return [Region(parent, [Names(str(place), ""), Norms(place, place)]) for place, parent in enumerate(parents)]


#   0       3      6
#  1 4      5
#  2       7
TREE = (None, 0, 1, None, 0, 3, None, 5)


class RegionTest(unittest.TestCase):
    def test_fields(self):
        facts = [Norms(0, 1)]
        region = Region(3, facts)
        facts.append(Norms(0, 2))
        self.assertEqual((region.parent, region.facts), (3, (Norms(0, 1),)))
        self.assertIs(type(region.facts), tuple)
        self.assertIsNone(Region(None, []).parent)

    def test_equality(self):
        self.assertTrue(Region(0, [Norms(0, 1)]) == Region(0, (Norms(0, 1),)))
        self.assertFalse(Region(0, [Norms(0, 1)]) != Region(0, [Norms(0, 1)]))
        self.assertTrue(Region(None, []) == Region(None, ()))
        for other in (Region(1, [Norms(0, 1)]), Region(None, [Norms(0, 1)]), Region(0, [Norms(0, 2)]), Region(0, []),
                      Region(0, [Norms(0, 1), Norms(0, 1)]), (0, (Norms(0, 1),)), None, 0, object()):
            self.assertFalse(Region(0, [Norms(0, 1)]) == other)
            self.assertTrue(Region(0, [Norms(0, 1)]) != other)
        self.assertFalse(Region(0, []) == Region(None, []))


class IsPartitionTest(unittest.TestCase):
    def test_partitions(self):
        for parents in ((), (None,), (None, None), (None, 0), (None, 0, 0), (None, 0, 1), (None, 0, None, 2, 1), TREE):
            self.assertIs(is_partition(partition(*parents)), True, parents)

    def test_the_place_itself(self):
        for parents in ((0,), (None, 1), (None, 0, 2), (None, None, 0, 3)):
            self.assertIs(is_partition(partition(*parents)), False, parents)

    def test_later(self):
        for parents in ((1, None), (1,), (None, 2, None), (None, 2), (None, 9), (None, 0, 3, None)):
            self.assertIs(is_partition(partition(*parents)), False, parents)

    def test_below_zero(self):
        for parents in ((-1,), (None, -1), (None, 0, -2), (None, None, -1, 0)):
            self.assertIs(is_partition(partition(*parents)), False, parents)

    def test_each_region_counts(self):
        self.assertIs(is_partition(partition(0, None, 1)), False)
        self.assertIs(is_partition(partition(None, 0, 0, 3)), False)


class WaysTest(unittest.TestCase):
    def setUp(self):
        self.regions = partition(*TREE)

    def test_way_up(self):
        ways = [way_up(self.regions, place) for place in range(8)]
        self.assertEqual(ways, [[0], [1, 0], [2, 1, 0], [3], [4, 0], [5, 3], [6], [7, 5, 3]])

    def test_lies_in(self):
        for place in range(8):
            way = way_up(self.regions, place)
            for other in range(8):
                self.assertIs(lies_in(self.regions, place, other), other in way)
        self.assertIs(lies_in(self.regions, 2, 2), True)
        self.assertIs(lies_in(self.regions, 2, 1), True)
        self.assertIs(lies_in(self.regions, 2, 0), True)
        self.assertIs(lies_in(self.regions, 0, 2), False)
        self.assertIs(lies_in(self.regions, 1, 4), False)
        self.assertIs(lies_in(self.regions, 7, 0), False)

    def test_facts_at(self):
        for place in range(8):
            expected = []
            for other in way_up(self.regions, place):
                expected += [Names(str(other), ""), Norms(other, other)]
            self.assertEqual(facts_at(self.regions, place), expected)
        self.assertEqual(facts_at(self.regions, 7), [
            Names("7", ""), Norms(7, 7), Names("5", ""), Norms(5, 5), Names("3", ""), Norms(3, 3),
        ])

    def test_facts_at_regions_without_facts(self):
        regions = [Region(None, [Norms(0, 1)]), Region(0, []), Region(1, [Norms(0, 2)])]
        self.assertEqual(facts_at(regions, 1), [Norms(0, 1)])
        self.assertEqual(facts_at(regions, 2), [Norms(0, 2), Norms(0, 1)])
        self.assertEqual(facts_at([Region(None, [])], 0), [])

    def test_tops(self):
        self.assertEqual(tops(self.regions), [0, 3, 6])
        self.assertEqual(tops([]), [])
        self.assertEqual(tops(partition(None, None, None)), [0, 1, 2])
        self.assertEqual(tops(partition(None, 0, 0)), [0])

    def test_lists_are_new_each_time(self):
        for told in (lambda: way_up(self.regions, 2), lambda: facts_at(self.regions, 2), lambda: tops(self.regions)):
            first = told()
            self.assertIs(type(first), list)
            kept = list(first)
            first.clear()
            self.assertEqual(told(), kept)

    def test_the_facts_of_a_top_region_are_copied(self):
        facts = facts_at(self.regions, 0)
        facts.append(Norms(9, 9))
        self.assertEqual(self.regions[0].facts, (Names("0", ""), Norms(0, 0)))

    def test_regions_stay_as_they_were(self):
        for place in range(8):
            way_up(self.regions, place)
            facts_at(self.regions, place)
        tops(self.regions)
        is_partition(self.regions)
        self.assertEqual(self.regions, partition(*TREE))

    def test_tuples_of_regions(self):
        regions = tuple(self.regions)
        self.assertIs(is_partition(regions), True)
        self.assertEqual(way_up(regions, 2), [2, 1, 0])
        self.assertEqual(tops(regions), [0, 3, 6])


if __name__ == "__main__":
    unittest.main()
