"""Point [42]: the facts of a region."""

import unittest

from surenear.building.facts import facts_of
from surenear.building.layouts import Sketch
from surenear.facts.contents import Counts, Names, Range, Values
from surenear.facts.vectors import Box, Cell, Differ, Norms, Part, Parts
from surenear.records.record import Record
from surenear.records.schema import Schema

SCHEMA = Schema(2)
BITS = Schema(3, width="bit", measure="bits")
KINDS = ["box", "norms", "names", "words", "fields"]


def at(*vectors):
    return [Record(f"n{place}", vector) for place, vector in enumerate(vectors)]


def with_words(*counts):
    """Records with these words, dicts from a word to its count."""
    return [Record("n", [0, 0], words=sorted(words.items())) for words in counts]


def with_values(field, *values):
    """Records with these values of a field; None if a record lacks it."""
    return [Record("n", [0, 0], fields=[] if worth is None else [(field, worth)]) for worth in values]


class FactsTest(unittest.TestCase):
    def told(self, records, *, schema=SCHEMA, kinds=(), centres=(), cells=()):
        kinds = list(kinds)
        sketch = Sketch(None, centres=centres, cells=cells)
        found = facts_of(schema, kinds, sketch, records)
        self.assertIs(type(found), list)
        for fact in found:
            self.assertTrue(all(fact.holds(record) for record in records))
        found_again = list(found)
        found.append(None)
        self.assertEqual(facts_of(schema, kinds, sketch, tuple(records)), found_again)
        return found_again


class NoRecordsTest(FactsTest):
    def test_no_facts(self):
        schema = Schema(2, width="bit", measure="bits", fields=[("i", "integer"), ("t", "text")])
        self.assertEqual(self.told([], schema=schema, kinds=KINDS, centres=[(0, (1, 1))], cells=[((0, 0), (1, 1))]), [])

    def test_nothing_asked_for(self):
        self.assertEqual(self.told(at((1, 2))), [])


class PartsTest(FactsTest):
    def test_radius(self):
        for vectors, radius in ((((1, 2),), 0), (((1, 2), (4, 6)), 25), (((4, 6), (1, 2), (0, 0)), 25), (((1, 1), (1, 4)), 4)):
            self.assertEqual(self.told(at(*vectors), centres=[(0, (1, 2))]), [Parts([Part(0, (1, 2), radius)])])

    def test_some_places(self):
        schema = Schema(4)
        records = at((1, 2, 3, 4), (5, 2, 0, 4))
        centres = [(1, (0, 0)), (3, (1,)), (0, (1, 2, 3, 4)), (2, (9,))]
        parts = [Part(1, (0, 0), 13), Part(3, (1,), 9), Part(0, (1, 2, 3, 4), 25), Part(2, (9,), 81)]
        self.assertEqual(self.told(records, schema=schema, centres=centres), [Parts(parts)])

    def test_centres_that_end_within_the_size(self):
        records = at((1, 2))
        for centres, parts in (
            ([(2, (0,))], None), ([(1, (0, 0))], None), ([(0, (0, 0, 0))], None), ([(3, ())], None), ([], None),
            ([(1, (0,))], [Part(1, (0,), 4)]), ([(2, ())], [Part(2, (), 0)]), ([(0, ())], [Part(0, (), 0)]),
            ([(1, (0, 0)), (0, (1,)), (5, ())], [Part(0, (1,), 0)]),
        ):
            self.assertEqual(self.told(records, centres=centres), [] if parts is None else [Parts(parts)])

    def test_parts_may_overlap(self):
        self.assertEqual(self.told(at((1, 2)), centres=[(1, (2,)), (0, (1, 1))]), [Parts([Part(1, (2,), 0), Part(0, (1, 1), 1)])])


class DifferTest(FactsTest):
    def test_differ(self):
        records = at((1, 0, 1), (1, 1, 1))
        self.assertEqual(self.told(records, schema=BITS, centres=[(0, (0, 0, 0))]), [Parts([Part(0, (0, 0, 0), 3)]), Differ((0, 0, 0), 3)])
        self.assertEqual(self.told(records[:1], schema=BITS, centres=[(0, (0, 0, 1))]),
                         [Parts([Part(0, (0, 0, 1), 1)]), Differ((0, 0, 1), 1)])

    def test_places_are_counted(self):
        # A centre may have other numbers than records.
        self.assertEqual(self.told(at((1, 0, 1)), schema=BITS, centres=[(0, (5, 0, 1))]),
                         [Parts([Part(0, (5, 0, 1), 16)]), Differ((5, 0, 1), 1)])

    def test_centres_that_are_whole_vectors(self):
        centres = [(0, (1, 0)), (0, (1, 0, 1)), (1, (0, 1)), (0, (1, 0, 1, 0)), (0, (0, 0, 0)), (1, (1, 0, 1)), (0, ())]
        parts = [Part(0, (1, 0), 0), Part(0, (1, 0, 1), 0), Part(1, (0, 1), 0), Part(0, (0, 0, 0), 2), Part(0, (), 0)]
        told = self.told(at((1, 0, 1)), schema=BITS, centres=centres)
        self.assertEqual(told, [Parts(parts), Differ((1, 0, 1), 0), Differ((0, 0, 0), 2)])

    def test_other_measures(self):
        for measure in ("square", "dot"):
            schema = Schema(3, width="bit", measure=measure)
            self.assertEqual(self.told(at((1, 0, 1)), schema=schema, centres=[(0, (0, 0, 0))]), [Parts([Part(0, (0, 0, 0), 2)])])


class CellTest(FactsTest):
    def test_cells_that_hold_for_all(self):
        cells = [((0, 0), (4, 0)), ((4, 0), (0, 0)), ((0, 0), (0, 4)), ((0, 0), (1, 0)), ((0, 0), (0, 0))]
        for vectors, places in (([(0, 0)], (0, 2, 3, 4)), ([(2, 0)], (0, 1, 2, 4)), ([(0, 0), (1, 0)], (0, 2, 4)),
                                ([(0, 0), (4, 0)], (2, 4)), ([(4, 4)], (1, 4)), ([(0, 3), (0, 0)], (0, 3, 4))):
            self.assertEqual(self.told(at(*vectors), cells=cells), [Cell(*cells[place]) for place in places])

    def test_cells_of_another_size(self):
        self.assertEqual(self.told(at((0, 0)), cells=[((0,), (4,)), ((0, 0, 0), (4, 4, 4)), ((0, 0), (4,))]), [])

    def test_parts_come_first(self):
        told = self.told(at((0, 0)), cells=[((0, 0), (4, 0))], centres=[(0, (0, 1))])
        self.assertEqual(told, [Parts([Part(0, (0, 1), 1)]), Cell((0, 0), (4, 0))])


class KindsTest(FactsTest):
    def test_box(self):
        self.assertEqual(self.told(at((3, -1)), kinds=["box"]), [Box((3, -1), (3, -1))])
        self.assertEqual(self.told(at((3, -1), (-5, 4), (0, 0)), kinds=["box"]), [Box((-5, -1), (3, 4))])

    def test_norms(self):
        self.assertEqual(self.told(at((3, -1)), kinds=["norms"]), [Norms(10, 10)])
        self.assertEqual(self.told(at((3, -1), (-5, 4), (0, 1)), kinds=["norms"]), [Norms(1, 41)])

    def test_names(self):
        records = [Record(name, [0, 0]) for name in ("b", "ab", "ba", "B")]
        self.assertEqual(self.told(records, kinds=["names"]), [Names("B", "ba")])
        self.assertEqual(self.told(records[:1], kinds=["names"]), [Names("b", "b")])
        self.assertEqual(self.told(records[:2], kinds=["names"]), [Names("ab", "b")])

    def test_order_of_kinds(self):
        schema = Schema(2, fields=[("i", "integer")])
        records = [Record("b", [1, 2], words=[("x", 2)])]
        facts = {"box": Box((1, 2), (1, 2)), "norms": Norms(5, 5), "names": Names("b", "b"), "words": Counts([("x", 2)]),
                 "fields": Range("i", 0, 0, lack="all")}
        for kinds in (KINDS, KINDS[::-1], KINDS[2:], ["words", "box"], ["fields", "names", "norms"]):
            self.assertEqual(self.told(records, schema=schema, kinds=kinds), [facts[kind] for kind in kinds])

    def test_order_of_all(self):
        schema = Schema(2, width="bit", measure="bits", fields=[("t", "text")])
        told = self.told(at((0, 1)), schema=schema, kinds=["names", "box"], centres=[(0, (0, 0))], cells=[((0, 0), (1, 0))])
        self.assertEqual(told, [Parts([Part(0, (0, 0), 1)]), Differ((0, 0), 1), Cell((0, 0), (1, 0)), Names("n0", "n0"),
                                Box((0, 1), (0, 1))])


class WordsTest(FactsTest):
    def test_words(self):
        self.assertEqual(self.told(with_words({"a": 3}), kinds=["words"]), [Counts([("a", 3)])])
        records = with_words({"m": 3, "z": 1}, {}, {"a": 2, "m": 5}, {"b": 1, "m": 4, "z": 2})
        self.assertEqual(self.told(records, kinds=["words"]), [Counts([("m", 5), ("z", 2), ("a", 2), ("b", 1)])])

    def test_no_words(self):
        self.assertEqual(self.told(with_words({}, {}), kinds=["words"]), [Counts([])])

    def test_large_counts(self):
        self.assertEqual(self.told(with_words({"a": 1000}, {"a": 16}), kinds=["words"]), [Counts([("a", 1000)])])

    def test_too_many_words(self):
        words = {f"w{place:02}": 1 for place in range(65)}
        some = dict(list(words.items())[:64])
        self.assertEqual(self.told(with_words(some), kinds=["words"]), [Counts(list(some.items()))])
        self.assertEqual(self.told(with_words(some, some), kinds=["words"]), [Counts(list(some.items()))])
        self.assertEqual(self.told(with_words(words), kinds=["words"]), [])
        self.assertEqual(self.told(with_words(some, {"w64": 1}), kinds=["words"]), [])
        self.assertEqual(self.told(with_words(words), kinds=["words", "norms"]), [Norms(0, 0)])


class FieldsTest(FactsTest):
    def fact(self, kind, *values):
        """What is told of a field of a kind."""
        return self.told(with_values("f", *values), schema=Schema(2, fields=[("f", kind)]), kinds=["fields"])

    def test_integers(self):
        self.assertEqual(self.fact("integer", 5), [Range("f", 5, 5)])
        self.assertEqual(self.fact("integer", 5, -3, 10, 5), [Range("f", -3, 10)])
        self.assertEqual(self.fact("integer", 5, None, 10), [Range("f", 5, 10, lack="some")])
        self.assertEqual(self.fact("integer", None, -5), [Range("f", -5, -5, lack="some")])
        self.assertEqual(self.fact("integer", None, None), [Range("f", 0, 0, lack="all")])
        self.assertEqual(self.fact("integer", None), [Range("f", 0, 0, lack="all")])
        self.assertEqual(self.fact("integer", *range(100)), [Range("f", 0, 99)])

    def test_texts(self):
        self.assertEqual(self.fact("text", "b"), [Values("f", ["b"])])
        self.assertEqual(self.fact("text", "b", "a", "b", "", "a", "c"), [Values("f", ["b", "a", "", "c"])])
        self.assertEqual(self.fact("text", None, "b", "b"), [Values("f", ["b"], lack="some")])
        self.assertEqual(self.fact("text", "", None), [Values("f", [""], lack="some")])
        self.assertEqual(self.fact("text", None, None), [Values("f", [], lack="all")])

    def test_flags(self):
        self.assertEqual(self.fact("flag", True), [Values("f", [True])])
        self.assertEqual(self.fact("flag", False, False), [Values("f", [False])])
        self.assertEqual(self.fact("flag", True, False, True), [Values("f", [True, False])])
        self.assertEqual(self.fact("flag", False, None, True), [Values("f", [False, True], lack="some")])
        self.assertEqual(self.fact("flag", None), [Values("f", [], lack="all")])

    def test_too_many_values(self):
        texts = [str(number) for number in range(17)]
        self.assertEqual(self.fact("text", *texts[:16]), [Values("f", texts[:16])])
        self.assertEqual(self.fact("text", *texts[:16], *texts[:16], None), [Values("f", texts[:16], lack="some")])
        self.assertEqual(self.fact("text", *texts), [])
        self.assertEqual(self.fact("text", *texts, None), [])

    def test_fields_of_the_schema(self):
        schema = Schema(2, fields=[("t", "text"), ("i", "integer"), ("f", "flag"), ("j", "integer")])
        records = [Record("n", [0, 0], fields=[("t", "x"), ("f", True)]), Record("n", [0, 0], fields=[("f", False), ("j", 3)])]
        self.assertEqual(self.told(records, schema=schema, kinds=["fields"]), [
            Values("t", ["x"], lack="some"), Range("i", 0, 0, lack="all"), Values("f", [True, False]), Range("j", 3, 3, lack="some"),
        ])
        many = [Record("n", [0, 0], fields=[("t", str(number)), ("i", number)]) for number in range(17)]
        self.assertEqual(self.told(many, schema=schema, kinds=["fields", "box"]), [
            Range("i", 0, 16), Values("f", [], lack="all"), Range("j", 0, 0, lack="all"), Box((0, 0), (0, 0)),
        ])

    def test_no_fields(self):
        self.assertEqual(self.told(at((0, 0)), kinds=["fields"]), [])


if __name__ == "__main__":
    unittest.main()
