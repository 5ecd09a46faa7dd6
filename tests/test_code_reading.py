"""Point [68]: how codes are read, and which are invalid."""

import unittest

from surenear.codes.reading import NumberReader, read_offer, read_record
from surenear.codes.writing import entry_code, offer_code, partition_code, record_code, region_code, string_code
from surenear.errors import InvalidCode, SurenearError
from surenear.facts.contents import Names, Range
from surenear.facts.vectors import Norms
from surenear.records.record import Record
from surenear.regions.offer import Entry, Offer
from surenear.regions.region import Region
from tests.test_code_writing import FACT_CODES, RECORD, RECORD_CODE

CHARS = [chr(code) for code in range(32, 127) if code != 37]
REGIONS = [Region(None, [fact for fact, _ in FACT_CODES]), Region(0, []), Region(7, [Norms(1, 2)]), Region(-1, [])]
ENTRY = Entry(7, RECORD, [2, 0])
OFFER = Offer([REGIONS, [], REGIONS[:2]], [ENTRY, Entry(7, Record("", []), []), Entry(-3, RECORD, [1, 1, 1])])


class ReaderTest(unittest.TestCase):
    def read(self, method, numbers):
        """Read one value that the whole list is the code of."""
        reader = NumberReader(numbers)
        found = getattr(reader, method)()
        reader.finish()
        return found

    def refuses(self, method, numbers):
        with self.assertRaises(InvalidCode) as caught:
            getattr(NumberReader(numbers), method)()
        self.assertIsInstance(caught.exception, SurenearError)

    def refuses_beginnings(self, method, code):
        for size in range(len(code)):
            self.refuses(method, code[:size])


class SimpleReadingTest(ReaderTest):
    def test_take(self):
        reader = NumberReader([5, -6, 10 ** 30])
        self.assertEqual([reader.take(), reader.take(), reader.take()], [5, -6, 10 ** 30])
        with self.assertRaises(InvalidCode):
            reader.take()
        self.refuses("take", [])

    def test_size(self):
        for size in (0, 1, 10 ** 30):
            self.assertEqual(self.read("size", [size]), size)
        for numbers in ([], [-1], [-10], [-1, 5]):
            self.refuses("size", numbers)

    def test_present(self):
        self.assertIs(self.read("present", [0]), False)
        self.assertIs(self.read("present", [1]), True)
        for numbers in ([], [2], [-1]):
            self.refuses("present", numbers)

    def test_integers(self):
        for numbers, found in (([0], []), ([1, 7], [7]), ([3, 3, -1, 3], [3, -1, 3])):
            self.assertEqual(self.read("integers", numbers), found)
            self.assertIs(type(self.read("integers", numbers)), list)
        for numbers in ([], [-1], [1], [2, 5], [3, 5, 6], [10 ** 30, 5]):
            self.refuses("integers", numbers)

    def test_string(self):
        for text in ["", "ab", "Ab 1", '"\\'] + CHARS + ["".join(CHARS)]:
            self.assertEqual(self.read("string", string_code(text)), text)
            self.refuses_beginnings("string", string_code(text))
        self.refuses("string", [-1])
        self.refuses("string", [10 ** 30, 65])

    def test_characters(self):
        for code in (*range(-70, 32), 37, *range(127, 300), 10 ** 30, -10 ** 30):
            self.refuses("string", [1, code])
            self.refuses("string", [3, 65, 66, code])

    def test_value(self):
        for code, found in (([0, 5], 5), ([0, 1], 1), ([0, 0], 0), ([0, -7], -7), ([1, 0], ""), ([1, 2, 97, 98], "ab"),
                            ([2, 1], True), ([2, 0], False)):
            self.assertEqual(self.read("value", code), found)
            self.assertIs(type(self.read("value", code)), type(found))
            self.refuses_beginnings("value", code)
        for numbers in ([3, 0], [-1, 0], [2, 2], [2, -1], [1, -1], [1, 1, 37]):
            self.refuses("value", numbers)

    def test_one_value_after_the_other(self):
        reader = NumberReader([1, 2, 5, 6, 0, 2, 97, 98, 2, 1, 9])
        with self.assertRaises(InvalidCode):
            reader.finish()
        self.assertEqual([reader.present(), reader.integers(), reader.present()], [True, [5, 6], False])
        self.assertEqual([reader.string(), reader.value(), reader.take()], ["ab", True, 9])
        self.assertIsNone(reader.finish())

    def test_finish(self):
        self.assertIsNone(NumberReader([]).finish())
        self.refuses("finish", [0])
        reader = NumberReader([1, 2])
        reader.take()
        with self.assertRaises(InvalidCode):
            reader.finish()

    def test_the_numbers_are_copied(self):
        numbers = [1, 2]
        reader = NumberReader(numbers)
        numbers[0] = 5
        numbers.append(6)
        self.assertEqual([reader.take(), reader.take()], [1, 2])
        self.assertIsNone(reader.finish())
        self.assertEqual(numbers, [5, 2, 6])


class RecordReadingTest(ReaderTest):
    def test_record(self):
        self.assertEqual(self.read("record", RECORD_CODE), RECORD)
        self.refuses_beginnings("record", RECORD_CODE)
        for record in (Record("", []), Record("n", [0], words=[("", -3)]), Record("n", [0], fields=[("f", False), ("f", 0)])):
            self.assertEqual(self.read("record", record_code(record)), record)

    def test_invalid(self):
        for numbers in ([-1, 0, 0, 0], [0, -1, 0, 0], [0, 0, -1, 0], [0, 0, 0, -1], [1, 37, 0, 0, 0], [0, 0, 1, 0, 3, 0, 0],
                        [0, 0, 1, 0, 2, 2, 0], [0, 0, 1, 1, 31, 0, 0, 0], [0, 0, 0, 1, 1, 127, 4]):
            self.refuses("record", numbers)

    def test_read_record(self):
        self.assertEqual(read_record(RECORD_CODE), RECORD)
        self.assertEqual(read_record(tuple(RECORD_CODE)), RECORD)
        self.assertEqual(read_record([0, 0, 0, 0]), Record("", []))
        for size in range(len(RECORD_CODE)):
            with self.assertRaises(InvalidCode):
                read_record(RECORD_CODE[:size])
        for more in ([0], [5], RECORD_CODE):
            with self.assertRaises(InvalidCode):
                read_record(RECORD_CODE + more)
        numbers = list(RECORD_CODE)
        read_record(numbers)
        self.assertEqual(numbers, RECORD_CODE)


class FactReadingTest(ReaderTest):
    def test_facts(self):
        for fact, code in FACT_CODES:
            self.assertEqual(self.read("fact", code), fact)
            self.assertIs(type(self.read("fact", code)), type(fact))
            self.refuses_beginnings("fact", code)

    def test_classes(self):
        for number in (0, 10, -1, 11, 100):
            for rest in ([], [0, 0, 0], [1, 97, 0, 0, 0]):
                self.refuses("fact", [number] + rest)

    def test_lacks(self):
        for number in (-3, -2, -1, 3, 4):
            self.refuses("fact", [6, 1, 105, -2, 8, number])
            self.refuses("fact", [7, 1, 105, 0, number])

    def test_sizes(self):
        for numbers in ([1, -1], [1, 1, 0, -1, 0], [2, -1, 0], [2, 0, -1], [3, -1, 0], [3, 0, -1], [5, -1, 0], [6, -1, 0, 0, 0],
                        [7, -1, 0, 0], [7, 0, -1, 0], [8, -1], [8, 1, -1, 0], [9, -1, 0], [9, 0, -1]):
            self.refuses("fact", numbers)

    def test_values_and_characters(self):
        for numbers in ([7, 0, 1, 3, 0, 0], [7, 0, 1, 2, 2, 0], [7, 0, 1, 1, 1, 37, 0], [6, 1, 37, 0, 0, 0], [8, 1, 1, 31, 1],
                        [9, 1, 127, 0], [9, 0, 1, 37]):
            self.refuses("fact", numbers)


class OfferReadingTest(ReaderTest):
    def test_region(self):
        for region in REGIONS:
            self.assertEqual(self.read("region", region_code(region)), region)
            self.refuses_beginnings("region", region_code(region))
        for numbers in ([2, 0, 0], [-1, 0], [0, -1], [1, 0, -1], [0, 1, 0]):
            self.refuses("region", numbers)

    def test_partition(self):
        for regions in ([], REGIONS, REGIONS[1:2]):
            self.assertEqual(self.read("partition", partition_code(regions)), regions)
            self.assertIs(type(self.read("partition", partition_code(regions))), list)
            self.refuses_beginnings("partition", partition_code(regions))
        for numbers in ([-1], [1, 2, 0], [1, 0, 1, 10]):
            self.refuses("partition", numbers)

    def test_entry(self):
        self.assertEqual(self.read("entry", entry_code(ENTRY)), ENTRY)
        self.refuses_beginnings("entry", entry_code(ENTRY))
        self.refuses("entry", [7, 0, 0, 0, 0, -1])

    def test_offer(self):
        for offer in (OFFER, Offer([], []), Offer([[]], []), Offer([], [ENTRY])):
            code = offer_code(offer)
            self.assertEqual(self.read("offer", code), offer)
            self.assertEqual(read_offer(code), offer)
            self.refuses_beginnings("offer", code)
            for size in range(len(code)):
                with self.assertRaises(InvalidCode):
                    read_offer(code[:size])
            for more in ([0], [5], code):
                with self.assertRaises(InvalidCode):
                    read_offer(code + more)
            self.assertEqual(code, offer_code(offer))
        for numbers in ([-1, 0], [0, -1], [1, -1, 0], [1, 1, 2, 0, 0, 0]):
            self.refuses("offer", numbers)

    def test_an_offer_that_is_not_sound_is_read(self):
        self.assertIs(read_offer(offer_code(OFFER)).sound, False)

    def test_lacks_stay(self):
        facts = [Range("i", 0, 1, lack=lack) for lack in ("nobody", "some", "all")] + [Names("", "~")]
        offer = Offer([[Region(None, facts)]], [])
        self.assertEqual([fact.lack for fact in read_offer(offer_code(offer)).partitions[0][0].facts[:3]], ["nobody", "some", "all"])


if __name__ == "__main__":
    unittest.main()
