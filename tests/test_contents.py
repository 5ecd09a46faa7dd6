"""Points [28], [33], [34] and [35]: the facts about fields, words and names."""

import itertools
import unittest

from surenear.facts.contents import Counts, Names, Range, Values
from surenear.filters.conditions import Compare, Has, OneOf
from surenear.records.record import Record

SIGNS = ("=", "!=", "<", "<=", ">", ">=")
LACKS = ("nobody", "some", "all")


def with_field(field, worth):
    return Record("n", [0], fields=[(field, worth)])


def with_words(*words):
    return Record("n", [0], words=words)


BARE = Record("n", [0])


class RangeTest(unittest.TestCase):
    def test_fields(self):
        fact = Range("i", 1, 2)
        self.assertEqual((fact.field, fact.low, fact.high, fact.lack), ("i", 1, 2, "nobody"))
        self.assertEqual(Range("i", 1, 2, lack="all").lack, "all")
        with self.assertRaises(TypeError):
            Range("i", 1, 2, "all")

    def test_holds_inside_and_outside(self):
        for lack in ("nobody", "some"):
            fact = Range("i", -1, 2, lack=lack)
            for worth, holds in ((-2, False), (-1, True), (0, True), (2, True), (3, False)):
                self.assertIs(fact.holds(with_field("i", worth)), holds)

    def test_holds_without_the_field(self):
        for lack, holds in (("nobody", False), ("some", True), ("all", True)):
            fact = Range("i", 0, 2, lack=lack)
            self.assertIs(fact.holds(BARE), holds)
            self.assertIs(fact.holds(with_field("j", 1)), holds)
            self.assertIs(fact.holds(with_field("j", 99)), holds)

    def test_all_lack_the_field(self):
        fact = Range("i", 0, 2, lack="all")
        for worth in (-1, 0, 1, 2, 3):
            self.assertIs(fact.holds(with_field("i", worth)), False)

    def test_holds_for_integers_alone(self):
        for lack in LACKS:
            fact = Range("i", 0, 2, lack=lack)
            for worth in (True, False, "1", ""):
                self.assertIs(fact.holds(with_field("i", worth)), False)


class ValuesTest(unittest.TestCase):
    def test_fields(self):
        choices = [1, "a"]
        fact = Values("f", choices)
        choices.append(2)
        self.assertEqual((fact.field, fact.choices, fact.lack), ("f", (1, "a"), "nobody"))
        self.assertIs(type(fact.choices), tuple)
        self.assertEqual(Values("f", [], lack="some").lack, "some")
        with self.assertRaises(TypeError):
            Values("f", [], "some")

    def test_holds(self):
        for lack in ("nobody", "some"):
            fact = Values("f", ["a", 5, False], lack=lack)
            for worth, holds in (("a", True), (5, True), (False, True), ("b", False), ("", False), (4, False), (True, False)):
                self.assertIs(fact.holds(with_field("f", worth)), holds)

    def test_same_kind(self):
        for choice, worth in ((1, True), (True, 1), (0, False), (False, 0), (1, "1"), ("true", True)):
            self.assertIs(Values("f", [choice]).holds(with_field("f", worth)), False)
            self.assertIs(Values("f", [choice, worth]).holds(with_field("f", worth)), True)

    def test_holds_without_the_field(self):
        for lack, holds in (("nobody", False), ("some", True), ("all", True)):
            for choices in ([], ["a"]):
                fact = Values("f", choices, lack=lack)
                self.assertIs(fact.holds(BARE), holds)
                self.assertIs(fact.holds(with_field("g", "a")), holds)

    def test_all_lack_the_field(self):
        fact = Values("f", ["a"], lack="all")
        self.assertIs(fact.holds(with_field("f", "a")), False)
        self.assertIs(fact.holds(with_field("f", "b")), False)

    def test_without_choices(self):
        for lack in LACKS:
            self.assertIs(Values("f", [], lack=lack).holds(with_field("f", "a")), False)


class CountsTest(unittest.TestCase):
    def test_fields(self):
        words = [["a", 1], ["b", 2]]
        fact = Counts(words)
        words[0][1] = 9
        words.pop()
        self.assertEqual(fact.words, (("a", 1), ("b", 2)))
        self.assertIs(type(fact.words), tuple)
        self.assertIs(type(fact.words[0]), tuple)

    def test_holds(self):
        fact = Counts([("a", 3), ("b", 1)])
        for words, holds in (
            ((), True), ((("a", 1),), True), ((("a", 3),), True), ((("a", 4),), False), ((("b", 1),), True),
            ((("b", 2),), False), ((("a", 3), ("b", 1)), True), ((("a", 3), ("b", 2)), False),
            ((("a", 4), ("b", 1)), False), ((("c", 1),), False), ((("a", 1), ("c", 1)), False), ((("A", 1),), False),
        ):
            self.assertIs(fact.holds(with_words(*words)), holds, words)

    def test_without_words(self):
        self.assertIs(Counts([]).holds(BARE), True)
        self.assertIs(Counts([]).holds(with_words(("a", 1))), False)
        self.assertIs(Counts([("a", 1)]).holds(BARE), True)

    def test_the_greatest_count_counts(self):
        for counts in ((1, 5), (5, 1), (1, 5, 2), (-1, 5), (5, -1)):
            fact = Counts([("a", count) for count in counts])
            self.assertIs(fact.holds(with_words(("a", 5))), True)
            self.assertIs(fact.holds(with_words(("a", 6))), False)
            self.assertEqual(fact.count_bound("a"), 5)

    def test_counts_below_zero(self):
        for counts in ((-3,), (0,), (-3, -1)):
            fact = Counts([("a", count) for count in counts])
            self.assertIs(fact.holds(with_words(("a", 1))), False)
            self.assertIs(fact.holds(with_words(("a", 0))), True)
            self.assertEqual(fact.count_bound("a"), 0)

    def test_count_bound(self):
        fact = Counts([("a", 3), ("b", 100), ("c", 0)])
        self.assertEqual([fact.count_bound(word) for word in ("a", "b", "c", "d", "", "A")], [3, 100, 0, 0, 0, 0])
        self.assertEqual(Counts([]).count_bound("a"), 0)


class NamesTest(unittest.TestCase):
    def test_fields(self):
        fact = Names("a", "b")
        self.assertEqual((fact.low, fact.high), ("a", "b"))

    def test_holds(self):
        fact = Names("b", "da")
        for name, holds in (("b", True), ("da", True), ("c", True), ("d", True), ("a", False), ("azz", False), ("bz", True),
                            ("dab", False), ("db", False), ("B", False), ("", False), ("~", False)):
            self.assertIs(fact.holds(Record(name, [0])), holds, name)
        self.assertIs(Names("a", "a").holds(Record("a", [0])), True)
        self.assertIs(Names("b", "a").holds(Record("a", [0])), False)
        self.assertIs(Names("", "").holds(Record("", [0])), True)

    def test_name_bound(self):
        self.assertEqual(Names("b", "d").name_bound(), "b")
        self.assertEqual(Names("", "d").name_bound(), "")
        self.assertEqual(Names("d", "b").name_bound(), "d")


def range_table(low, high, sign, v):
    """The table of point [35], row by row."""
    return {
        "=": (low <= v <= high, not low == v == high),
        "!=": (not low == v == high, low <= v <= high),
        "<": (low < v, v <= high),
        "<=": (low <= v, v < high),
        ">": (v < high, low <= v),
        ">=": (v <= high, low < v),
    }[sign]


class RangeOutcomesTest(unittest.TestCase):
    def test_by_hand(self):
        fact = Range("i", 3, 5)
        for sign, told in (
            ("=", {2: (False, True), 3: (True, True), 4: (True, True), 5: (True, True), 6: (False, True)}),
            ("!=", {2: (True, False), 3: (True, True), 4: (True, True), 5: (True, True), 6: (True, False)}),
            ("<", {2: (False, True), 3: (False, True), 4: (True, True), 5: (True, True), 6: (True, False)}),
            ("<=", {2: (False, True), 3: (True, True), 4: (True, True), 5: (True, False), 6: (True, False)}),
            (">", {2: (True, False), 3: (True, True), 4: (True, True), 5: (False, True), 6: (False, True)}),
            (">=", {2: (True, False), 3: (True, False), 4: (True, True), 5: (True, True), 6: (False, True)}),
        ):
            for v, outcomes in told.items():
                self.assertEqual(fact.outcomes(Compare("i", sign, v)), outcomes, (sign, v))

    def test_one_integer(self):
        fact = Range("i", 3, 3)
        told = {sign: [fact.outcomes(Compare("i", sign, v)) for v in (2, 3, 4)] for sign in SIGNS}
        yes, no = (True, False), (False, True)
        self.assertEqual(told, {
            "=": [no, yes, no], "!=": [yes, no, yes], "<": [no, no, yes], "<=": [no, yes, yes],
            ">": [yes, no, no], ">=": [yes, yes, no],
        })

    def test_table(self):
        for low, high, v in itertools.product(range(-2, 3), repeat=3):
            for sign in SIGNS:
                can_pass, can_fail = range_table(low, high, sign, v)
                condition = Compare("i", sign, v)
                self.assertEqual(Range("i", low, high).outcomes(condition), (can_pass, can_fail))
                self.assertEqual(Range("i", low, high, lack="some").outcomes(condition), (can_pass, True))
                self.assertEqual(Range("i", low, high, lack="all").outcomes(condition), (False, True))

    def test_has(self):
        self.assertEqual(Range("i", 0, 1).outcomes(Has("i")), (True, False))
        self.assertEqual(Range("i", 0, 1, lack="some").outcomes(Has("i")), (True, True))
        self.assertEqual(Range("i", 0, 1, lack="all").outcomes(Has("i")), (False, True))
        self.assertEqual(Range("i", 1, 0).outcomes(Has("i")), (True, False))

    def test_lists(self):
        for choices, can_pass in (([3], True), ([5], True), ([4], True), ([2], False), ([6], False), ([2, 6], False),
                                  ([2, 5], True), ([3, 4, 5], True), ([], False)):
            condition = OneOf("i", choices)
            self.assertEqual(Range("i", 3, 5).outcomes(condition), (can_pass, True))
            self.assertEqual(Range("i", 3, 5, lack="some").outcomes(condition), (can_pass, True))
            self.assertEqual(Range("i", 3, 5, lack="all").outcomes(condition), (False, True))
        self.assertEqual(Range("i", 3, 3).outcomes(OneOf("i", [3])), (True, True))

    def test_values_of_other_kinds(self):
        for lack in LACKS:
            fact = Range("i", 0, 5, lack=lack)
            for value in (True, False, "1", ""):
                for sign in SIGNS:
                    self.assertEqual(fact.outcomes(Compare("i", sign, value)), (False, True), (sign, value))
                self.assertEqual(fact.outcomes(OneOf("i", [value])), (False, True))
        self.assertEqual(Range("i", 0, 5).outcomes(OneOf("i", ["1", True, 1])), (True, True))
        self.assertEqual(Range("i", 0, 5).outcomes(OneOf("i", ["1", True, 9])), (False, True))

    def test_other_fields(self):
        for lack in LACKS:
            for condition in (Has("j"), Compare("j", "=", 1), OneOf("j", [1]), Has("I")):
                self.assertIsNone(Range("i", 0, 5, lack=lack).outcomes(condition))

    def test_kinds_of_outcomes(self):
        for condition in (Has("i"), Compare("i", "<", 1), OneOf("i", [1])):
            for lack in LACKS:
                told = Range("i", 0, 5, lack=lack).outcomes(condition)
                self.assertIs(type(told), tuple)
                self.assertEqual([type(part) for part in told], [bool, bool])


class ValuesOutcomesTest(unittest.TestCase):
    def test_by_hand(self):
        fact = Values("t", ["b", "d"])
        yes, no, both = (True, False), (False, True), (True, True)
        for sign, told in (
            ("=", (no, both, no, both, no)), ("!=", (yes, both, yes, both, yes)), ("<", (no, no, both, both, yes)),
            ("<=", (no, both, both, yes, yes)), (">", (yes, both, both, no, no)), (">=", (yes, yes, both, both, no)),
        ):
            for value, outcomes in zip("abcde", told):
                self.assertEqual(fact.outcomes(Compare("t", sign, value)), outcomes, (sign, value))

    def test_as_told_by_the_choices(self):
        rows = (([1, 2, 3], (0, 1, 2, 3, 4)), (["a", "b"], ("", "a", "ab", "b", "c")), ([False, True], (False, True)),
                ([True], (False, True)), ([False], (False, True)), ([7], (6, 7, 8)))
        for choices, values in rows:
            for sign, value in itertools.product(SIGNS, values):
                condition = Compare("f", sign, value)
                passed = [condition.passes(with_field("f", choice)) for choice in choices]
                told = (any(passed), not all(passed))
                self.assertEqual(Values("f", choices).outcomes(condition), told, (choices, sign, value))
                self.assertEqual(Values("f", choices, lack="some").outcomes(condition), (told[0], True))
                self.assertEqual(Values("f", choices, lack="all").outcomes(condition), (False, True))

    def test_has(self):
        for choices in ([], ["a"], [1, True]):
            self.assertEqual(Values("f", choices).outcomes(Has("f")), (True, False))
            self.assertEqual(Values("f", choices, lack="some").outcomes(Has("f")), (True, True))
            self.assertEqual(Values("f", choices, lack="all").outcomes(Has("f")), (False, True))

    def test_lists(self):
        for choices, wanted, told in (
            (["a", "b"], ["a"], (True, True)), (["a", "b"], ["a", "b"], (True, False)), (["a"], ["a", "b"], (True, False)),
            (["a", "b"], ["c"], (False, True)), (["a"], [], (False, True)), ([], ["a"], (False, False)),
            ([1, True], [1], (True, True)), ([1], [True], (False, True)), ([True], [1], (False, True)),
            ([0], [False, "0"], (False, True)), ([1, True], [True, 1], (True, False)),
        ):
            condition = OneOf("f", wanted)
            self.assertEqual(Values("f", choices).outcomes(condition), told, (choices, wanted))
            self.assertEqual(Values("f", choices, lack="some").outcomes(condition), (told[0], True))
            self.assertEqual(Values("f", choices, lack="all").outcomes(condition), (False, True))

    def test_choices_of_other_kinds(self):
        for choice, value in ((1, True), (True, 1), (0, False), (False, 0), ("1", 1), (1, "1"), (True, "true"), ("x", 5),
                              (5, "x"), (False, "")):
            for sign in SIGNS:
                expected = (True, False) if sign == "!=" else (False, True)
                self.assertEqual(Values("f", [choice]).outcomes(Compare("f", sign, value)), expected, (choice, sign, value))
        self.assertEqual(Values("f", [True, 1]).outcomes(Compare("f", "=", 1)), (True, True))
        self.assertEqual(Values("f", ["x", 5]).outcomes(Compare("f", "<=", 5)), (True, True))
        self.assertEqual(Values("f", ["x", 5]).outcomes(Compare("f", "!=", 6)), (True, False))

    def test_without_choices(self):
        for sign in SIGNS:
            self.assertEqual(Values("f", []).outcomes(Compare("f", sign, 1)), (False, False))
            self.assertEqual(Values("f", [], lack="some").outcomes(Compare("f", sign, 1)), (False, True))
            self.assertEqual(Values("f", [], lack="all").outcomes(Compare("f", sign, 1)), (False, True))

    def test_other_fields(self):
        for lack in LACKS:
            for condition in (Has("g"), Compare("g", "=", "a"), OneOf("g", ["a"]), Has("F")):
                self.assertIsNone(Values("f", ["a"], lack=lack).outcomes(condition))

    def test_kinds_of_outcomes(self):
        for condition in (Has("f"), Compare("f", "<", 1), OneOf("f", [1])):
            for lack in LACKS:
                told = Values("f", [1, 2], lack=lack).outcomes(condition)
                self.assertIs(type(told), tuple)
                self.assertEqual([type(part) for part in told], [bool, bool])


class SoundTest(unittest.TestCase):
    """What facts say of a condition is true of all records for which they hold."""

    def test_outcomes(self):
        worths = [None, -1, 0, 1, 2, 3]
        records = [BARE if worth is None else with_field("i", worth) for worth in worths]
        facts = [Range("i", low, high, lack=lack) for low in range(3) for high in range(low, 3) for lack in LACKS]
        facts += [Values("i", choices, lack=lack) for choices in ([], [0], [1, 3], [2, 0]) for lack in LACKS]
        conditions = [Has("i"), OneOf("i", [0, 3]), OneOf("i", [1])]
        conditions += [Compare("i", sign, value) for sign in SIGNS for value in range(-1, 4)]
        for fact, condition in itertools.product(facts, conditions):
            can_pass, can_fail = fact.outcomes(condition)
            for record in records:
                if fact.holds(record):
                    self.assertTrue(can_pass if condition.passes(record) else can_fail)


if __name__ == "__main__":
    unittest.main()
