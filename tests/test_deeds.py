"""Point [98]: the codes of deeds and of catalogs."""

import unittest

from surenear.codes.writing import list_code, numbers_code, partition_code, record_code, string_code
from surenear.errors import InvalidCode, SurenearError
from surenear.facts.contents import Names
from surenear.facts.vectors import Box
from surenear.gateway.catalog import Catalog
from surenear.gateway.deeds import catalog_code, deed_code, read_catalog, read_deed
from surenear.records.record import Record
from surenear.records.schema import Schema
from surenear.regions.region import Region

SCHEMA = Schema(2, fields=[("i", "integer")])
KEY = (17, 4242)
RECORD = Record("ab", [1, -2], fields=[("i", 5)], words=[("w", 3)])
PARTITIONS = ((Region(None, [Box([0, 0], [1, 2])]), Region(0, [Names("a", "b")])), (Region(None, []),))
HOMES = ((1, (1, 0)), (3, (0, 0)))
DEEDS = (
    ("put", RECORD), ("drop", "a b"), ("pin",), ("unpin", 4), ("lift", 5), ("own", 7, (1, 2), PARTITIONS, HOMES),
    ("close", 7, (1, 2)), ("forget", 8, (3, 4)), ("route", "m", 9), ("begin",),
)


def example():
    """A catalog with something of everything."""
    catalog = Catalog(SCHEMA, KEY, 7)
    for deed in (("begin",), ("put", RECORD), ("put", Record("b", [0, 0])), ("pin",), ("put", Record("m", [3, 3])), ("route", "m", 9),
                 ("own", 7, (1, 2), PARTITIONS, HOMES), ("own", 9, (1, 3), PARTITIONS, HOMES), ("drop", "b"), ("put", Record("ab", [0, 0])),
                 ("close", 8, (6, 5)), ("lift", 2), ("pin",), ("close", 7, (0, 0)), ("begin",)):
        catalog.apply(deed)
    return catalog


def state(catalog):
    ledger = catalog.ledger
    return (ledger.schema, ledger.key, ledger.now, ledger.floor, ledger.pins, ledger.notes, ledger.segments, ledger.upcoming,
            catalog.titles, catalog.closed, catalog.routes, catalog.begins)


class DeedTest(unittest.TestCase):
    def test_codes(self):
        homes = [2, 1, 2, 1, 0, 3, 2, 0, 0]
        partitions = list_code([partition_code(regions) for regions in PARTITIONS])
        codes = [
            [1] + record_code(RECORD), [2] + string_code("a b"), [3], [4, 4], [5, 5], [6, 7, 1, 2] + partitions + homes,
            [7, 7, 1, 2], [8, 8, 3, 4], [9] + string_code("m") + [9], [10],
        ]
        for deed, code in zip(DEEDS, codes, strict=True):
            self.assertEqual(deed_code(deed), code)
            self.assertIs(type(deed_code(deed)), list)

    def test_there_and_back(self):
        for deed in DEEDS + (("own", -1, (0, 0), (), ()), ("own", 5, (-3, 10 ** 20), ((),), ((1, ()),)), ("unpin", -9), ("drop", ""),
                             ("route", "", -5), ("put", Record("", []))):
            told = read_deed(deed_code(deed))
            self.assertEqual(told, deed)
            self.assertIs(type(told), tuple)
            self.assertEqual(read_deed(tuple(deed_code(deed))), deed)

    def test_tuples(self):
        _, _, name, partitions, homes = read_deed(deed_code(DEEDS[5]))
        self.assertEqual([type(told) for told in (name, partitions, partitions[0], homes, homes[0], homes[0][1])], [tuple] * 6)

    def test_invalid_codes(self):
        for numbers in ([], [0], [11], [-1], [12, 3], [10 ** 20], [1], [2], [2, 1], [2, 1, 37], [2, -1], [4], [5], [6], [7], [7, 1, 2], [8, 1],
                        [9, 0], [9], [3, 0], [10, 0], [2, 0, 0]):
            with self.assertRaises(InvalidCode):
                read_deed(numbers)

    def test_cut_and_longer(self):
        for deed in DEEDS:
            code = deed_code(deed)
            for size in range(len(code)):
                with self.assertRaises(InvalidCode):
                    read_deed(code[:size])
            with self.assertRaises(InvalidCode):
                read_deed(code + [0])

    def test_one_number_changed(self):
        """Another deed, or an invalid code; never another error."""
        for deed in DEEDS:
            code = deed_code(deed)
            for at in range(len(code)):
                for change in (-100, -1, 1, 100):
                    try:
                        told = read_deed(code[:at] + [code[at] + change] + code[at + 1:])
                    except SurenearError as error:
                        self.assertIsInstance(error, InvalidCode)
                    else:
                        self.assertFalse(told == deed)


class CatalogTest(unittest.TestCase):
    def test_the_first_catalog(self):
        catalog = Catalog(SCHEMA, KEY, 7)
        self.assertEqual(catalog_code(catalog), [0, 1, 0, 7, 0, 0, 0, 1, 0, 0, 0])
        self.assertEqual(state(read_catalog(SCHEMA, KEY, catalog_code(catalog))), state(catalog))

    def test_the_code(self):
        catalog = example()
        partitions = list_code([partition_code(regions) for regions in PARTITIONS])
        notes = []
        for note in catalog.ledger.notes:
            notes.append(
                string_code(note.name) + [note.number, *note.mark] + ([0] if note.died is None else [1, note.died])
                + ([0] if note.record is None else [1] + record_code(note.record))
                + ([0] if note.segment is None else [1, note.segment]) + numbers_code(note.leaves)
            )
        code = [2] + [2, 0, 7] + string_code("m") + [9] + [5, 2] + [2, 2, 5] + [3]
        code += [2] + [1, 7, 1, 2] + partitions + [2, 9, 1, 3] + partitions
        code += list_code(notes) + [2, 8, 6, 5, 7, 0, 0]
        self.assertEqual(catalog_code(catalog), code)
        # Something of everything is in it.
        self.assertEqual([(note.died, note.record is None, note.segment, note.leaves) for note in catalog.ledger.notes],
                         [(5, True, 1, (1, 0)), (4, False, None, ()), (None, True, 2, (0, 0)), (None, False, None, ())])

    def test_there_and_back(self):
        catalog = example()
        before = state(catalog.twin())
        told = read_catalog(SCHEMA, list(KEY), catalog_code(catalog))
        self.assertEqual(state(told), before)
        self.assertEqual(state(catalog), before)
        self.assertEqual(state(read_catalog(SCHEMA, KEY, tuple(catalog_code(catalog)))), before)
        self.assertEqual([type(pair) for pair in told.routes + told.closed + told.titles], [tuple] * 6)
        # It goes on like the other one.
        for deed in (("put", Record("c", [1, 1])), ("drop", "ab"), ("own", 7, (2, 0), PARTITIONS, ((5, (0, 0)), (6, (1, 0)))), ("lift", 99)):
            self.assertEqual(told.apply(deed), catalog.apply(deed))
            self.assertEqual(state(told), state(catalog))

    def test_cut_and_longer(self):
        code = catalog_code(example())
        for size in range(len(code)):
            with self.assertRaises(InvalidCode):
                read_catalog(SCHEMA, KEY, code[:size])
        with self.assertRaises(InvalidCode):
            read_catalog(SCHEMA, KEY, code + [0])

    def test_sizes_below_0(self):
        for numbers in ([0, -1], [0, 1, -1], [0, 0, 0, 0, -1], [0, 0, 0, 0, 0, 1, -1], [0, 0, 0, 0, 0, 1, 0, -1], [0, 0, 0, 0, 0, 1, 0, 0, -1],
                        [0, 0, 0, 0, 0, 1, 0, 1, 0, 1, 0, 0, 2], [0, 0, 0, 0, 0, 1, 0, 1, 0, 1, 0, 0, 0, 2], [0, 0, 0, 0, 0, 1, 0, 1, 0, 1, 0, 0, 0, 0, 2]):
            with self.assertRaises(InvalidCode):
                read_catalog(SCHEMA, KEY, numbers + [0] * 9)


if __name__ == "__main__":
    unittest.main()
