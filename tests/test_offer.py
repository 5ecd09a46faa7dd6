"""Points [39] and [40]: offers, and which of them are sound."""

import unittest

from surenear.facts.vectors import Norms
from surenear.records.record import Record
from surenear.regions.offer import Entry, Offer
from surenear.regions.region import Region


def record(name="n"):
    return Record(name, [0])


def partition(*parents):
    return [Region(parent, []) for parent in parents]


def entries(*rows):
    """Entries from rows of a number and leaves; the name of each record is its number."""
    return [Entry(number, record(str(number)), leaves) for number, *leaves in rows]


#   0       3      6
#  1 4      5
#  2       7
TREE = (None, 0, 1, None, 0, 3, None, 5)


class EntryTest(unittest.TestCase):
    def test_fields(self):
        leaves = [1, 2]
        entry = Entry(7, record("a"), leaves)
        leaves.append(3)
        self.assertEqual((entry.number, entry.record, entry.leaves), (7, record("a"), (1, 2)))
        self.assertIs(type(entry.leaves), tuple)

    def test_equality(self):
        self.assertTrue(Entry(7, record(), [1, 2]) == Entry(7, record(), (1, 2)))
        self.assertFalse(Entry(7, record(), [1, 2]) != Entry(7, record(), (1, 2)))
        for other in (Entry(8, record(), [1, 2]), Entry(7, record("m"), [1, 2]), Entry(7, record(), [1]), Entry(7, record(), [2, 1]),
                      (7, record(), (1, 2)), None, 7, object()):
            self.assertFalse(Entry(7, record(), [1, 2]) == other)
            self.assertTrue(Entry(7, record(), [1, 2]) != other)


class OfferTest(unittest.TestCase):
    def test_fields(self):
        regions = partition(None, 0)
        partitions, listed = [regions, partition(None)], entries((1, 1, 0))
        offer = Offer(partitions, listed)
        regions.append(Region(None, []))
        partitions.append([])
        listed.clear()
        self.assertEqual(offer.partitions, (tuple(partition(None, 0)), tuple(partition(None))))
        self.assertEqual(offer.entries, tuple(entries((1, 1, 0))))
        self.assertEqual([type(told) for told in (offer.partitions, offer.partitions[0], offer.entries)], [tuple] * 3)

    def test_equality(self):
        offer = Offer([partition(None), partition(None, 0)], entries((1, 0, 1), (2, 0, 0)))
        self.assertTrue(offer == Offer((tuple(partition(None)), partition(None, 0)), tuple(entries((1, 0, 1), (2, 0, 0)))))
        self.assertFalse(offer != Offer([partition(None), partition(None, 0)], entries((1, 0, 1), (2, 0, 0))))
        self.assertTrue(Offer([], []) == Offer((), ()))
        for other in (
            Offer([partition(None), partition(None, None)], entries((1, 0, 1), (2, 0, 0))),
            Offer([[Region(None, [Norms(0, 1)])], partition(None, 0)], entries((1, 0, 1), (2, 0, 0))),
            Offer([partition(None, 0), partition(None)], entries((1, 0, 1), (2, 0, 0))), Offer([], entries((1, 0, 1), (2, 0, 0))),
            Offer([partition(None), partition(None, 0)], entries((2, 0, 0), (1, 0, 1))),
            Offer([partition(None), partition(None, 0)], entries((1, 0, 1))), Offer([partition(None), partition(None, 0)], []),
            (offer.partitions, offer.entries), None, object(),
        ):
            self.assertFalse(offer == other)
            self.assertTrue(offer != other)

    def test_write_numbers(self):
        offer = Offer([partition(None)], entries((5, 0), (2, 0), (9, 0), (2, 0)))
        self.assertEqual(offer.write_numbers, [5, 2, 9, 2])
        offer.write_numbers.clear()
        self.assertEqual(offer.write_numbers, [5, 2, 9, 2])
        self.assertEqual(Offer([], []).write_numbers, [])
        self.assertIsInstance(Offer.__dict__["write_numbers"], property)


class SoundTest(unittest.TestCase):
    def told(self, partitions, *rows):
        return Offer(partitions, entries(*rows)).sound

    def test_sound(self):
        for partitions, rows in (
            ([[]], ()), ([[], []], ()), ([partition(None)], ()), ([partition(None)], ((1, 0),)),
            ([partition(*TREE)], ((1, 0), (2, 7), (0, 2), (-3, 5))), ([partition(None), partition(None, 0)], ((1, 0, 1), (2, 0, 0))),
        ):
            self.assertIs(self.told(partitions, *rows), True)
        self.assertIsInstance(Offer.__dict__["sound"], property)

    def test_at_least_one_partition(self):
        self.assertIs(self.told([]), False)
        self.assertIs(self.told([], (1,)), False)

    def test_parents(self):
        for parents in ((0,), (-1,), (None, 1), (None, 2), (None, 2, None), (None, 0, 2), (None, -1)):
            self.assertIs(self.told([partition(*parents)]), False)
            self.assertIs(self.told([partition(None), partition(*parents)], (1, 0, 0)), False)
            self.assertIs(self.told([partition(*parents), partition(None)], (1, 0, 0)), False)

    def test_no_number_twice(self):
        self.assertIs(self.told([partition(None)], (1, 0), (1, 0)), False)
        self.assertIs(self.told([partition(None, None)], (1, 0), (2, 0), (1, 1)), False)
        self.assertIs(self.told([partition(None, None)], (1, 0), (2, 0), (3, 1)), True)
        same = [Entry(number, record("a"), [0]) for number in (1, 2)]
        self.assertIs(Offer([partition(None)], same).sound, True)

    def test_as_many_leaves_as_partitions(self):
        two = [partition(None), partition(None)]
        for leaves, sound in (((), False), ((0,), False), ((0, 0), True), ((0, 0, 0), False)):
            self.assertIs(self.told(two, (1, *leaves)), sound)
            self.assertIs(self.told(two, (2, 0, 0), (1, *leaves), (3, 0, 0)), sound)

    def test_leaves_are_places(self):
        for leaf, sound in ((-1, False), (0, True), (1, True), (2, True), (3, False), (10, False)):
            self.assertIs(self.told([partition(None, 0, None)], (1, leaf)), sound)
            self.assertIs(self.told([partition(*TREE), partition(None, 0, None)], (2, 5, 0), (1, 5, leaf)), sound)
        self.assertIs(self.told([[]], (1, 0)), False)
        self.assertIs(self.told([partition(None), partition(None, 0)], (1, 1, 0)), False)


class BelowTest(unittest.TestCase):
    def test_below(self):
        offer = Offer([partition(*TREE)], entries((9, 2), (1, 4), (8, 7), (2, 2), (7, 0), (3, 3), (6, 6)))
        names = {0: "9127", 1: "92", 2: "92", 3: "83", 4: "1", 5: "8", 6: "6", 7: "8"}
        for place, told in names.items():
            self.assertEqual("".join(found.name for found in offer.below(0, place)), told)

    def test_each_partition(self):
        offer = Offer([partition(None, None), partition(None, 0)], entries((1, 0, 1), (2, 1, 1), (3, 1, 0)))
        told = {(k, place): "".join(found.name for found in offer.below(k, place)) for k in range(2) for place in range(2)}
        self.assertEqual(told, {(0, 0): "1", (0, 1): "23", (1, 0): "123", (1, 1): "12"})

    def test_a_new_list(self):
        offer = Offer([partition(None)], entries((1, 0)))
        self.assertIs(type(offer.below(0, 0)), list)
        offer.below(0, 0).clear()
        self.assertEqual(offer.below(0, 0), [record("1")])
        self.assertEqual(Offer([partition(None)], []).below(0, 0), [])


if __name__ == "__main__":
    unittest.main()
