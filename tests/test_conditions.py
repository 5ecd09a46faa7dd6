"""Points [22] and [24]: what passes conditions, and how they are written."""

import unittest

from surenear.filters.conditions import Both, Compare, Condition, Either, Every, Has, Negation, OneOf
from surenear.filters.reading import read_filter
from surenear.records.record import Record
from surenear.records.schema import Schema

SCHEMA = Schema(1, fields=[("i", "integer"), ("t", "text"), ("f", "flag")])
SIGNS = ("=", "!=", "<", "<=", ">", ">=")
BARE = Record("n", [0])
I, T, F = Has("i"), Has("t"), Has("f")


def record_of(field, worth):
    return Record("n", [0], fields=[(field, worth)])


def table(field, worth, value):
    """What a record with a value passes of the six comparisons with another value."""
    return [Compare(field, sign, value).passes(record_of(field, worth)) for sign in SIGNS]


LESS = [False, True, True, True, False, False]
SAME = [True, False, False, True, False, True]
MORE = [False, True, False, False, True, True]


class PassesTest(unittest.TestCase):
    def test_every(self):
        self.assertIs(Every().passes(BARE), True)
        self.assertIs(Every().passes(record_of("i", 0)), True)

    def test_has(self):
        self.assertIs(I.passes(BARE), False)
        self.assertIs(I.passes(record_of("t", "i")), False)
        for field, worth in (("i", 0), ("i", 5), ("t", ""), ("t", "x"), ("f", False), ("f", True)):
            self.assertIs(Has(field).passes(record_of(field, worth)), True)

    def test_compare_integers(self):
        for worth, value in ((1, 2), (-2, -1), (-1, 0), (9, 10), (-10, -9), (0, 10 ** 30)):
            self.assertEqual(table("i", worth, value), LESS)
            self.assertEqual(table("i", value, worth), MORE)
            self.assertEqual(table("i", value, value), SAME)

    def test_compare_texts(self):
        for worth, value in (("a", "b"), ("", "a"), ("a", "ab"), ("10", "9"), ("B", "a"), (" ", "~"), ("Z", "_")):
            self.assertEqual(table("t", worth, value), LESS)
            self.assertEqual(table("t", value, worth), MORE)
            self.assertEqual(table("t", worth, worth), SAME)

    def test_compare_flags(self):
        self.assertEqual(table("f", False, True), LESS)
        self.assertEqual(table("f", True, False), MORE)
        self.assertEqual(table("f", True, True), SAME)
        self.assertEqual(table("f", False, False), SAME)

    def test_passes_gives_flags(self):
        for sign in SIGNS:
            self.assertIs(type(Compare("i", sign, 1).passes(record_of("i", 1))), bool)
            self.assertIs(type(Compare("i", sign, 1).passes(BARE)), bool)
        self.assertIs(type(OneOf("i", [1]).passes(record_of("i", 1))), bool)
        self.assertIs(type(OneOf("i", [1]).passes(BARE)), bool)

    def test_compare_without_the_field(self):
        for sign in SIGNS:
            for field, value in (("i", 0), ("i", 5), ("t", ""), ("f", False)):
                self.assertIs(Compare(field, sign, value).passes(BARE), False)
                self.assertIs(Negation(Compare(field, sign, value)).passes(BARE), True)

    def test_one_of(self):
        for worth, passed in ((1, True), (-3, True), (2, False), (0, False)):
            self.assertIs(OneOf("i", [1, -3]).passes(record_of("i", worth)), passed)
        for worth, passed in (("a", True), ("", True), ("aa", False), ("A", False)):
            self.assertIs(OneOf("t", ["a", ""]).passes(record_of("t", worth)), passed)
        self.assertIs(OneOf("f", [True]).passes(record_of("f", True)), True)
        self.assertIs(OneOf("f", [True]).passes(record_of("f", False)), False)
        self.assertIs(OneOf("f", [False]).passes(record_of("f", False)), True)
        self.assertIs(OneOf("f", [False, True]).passes(record_of("f", True)), True)

    def test_one_of_without_the_field(self):
        self.assertIs(OneOf("i", [0]).passes(BARE), False)
        self.assertIs(OneOf("f", [False]).passes(BARE), False)
        self.assertIs(OneOf("t", [""]).passes(record_of("i", 0)), False)
        self.assertIs(Negation(OneOf("i", [0])).passes(BARE), True)

    def test_not_and_or(self):
        for i in (False, True):
            for t in (False, True):
                fields = [pair for pair, wanted in ((("i", 0), i), (("t", "x"), t)) if wanted]
                record = Record("n", [0], fields=fields)
                self.assertIs(Both(I, T).passes(record), i and t)
                self.assertIs(Either(I, T).passes(record), i or t)
                self.assertIs(Negation(I).passes(record), not i)
                self.assertIs(Negation(Both(I, T)).passes(record), not (i and t))
                self.assertIs(Both(Negation(I), T).passes(record), not i and t)
                self.assertIs(Either(I, Negation(T)).passes(record), i or not t)

    def test_filters_as_read(self):
        record = Record("n", [0], fields=[("i", 5), ("f", False)])
        for text, passed in (("i = 5", True), ("i != 5", False), ("t != \"x\"", False), ("not t != \"x\"", True),
                             ("i > 4 and f < true", True), ("i in [1, 2] or f = false", True), ("has t or i < 5", False)):
            self.assertIs(read_filter(SCHEMA, text).passes(record), passed)


class FieldsTest(unittest.TestCase):
    def test_fields(self):
        compare = Compare("i", "<", 5)
        self.assertEqual((compare.field, compare.sign, compare.value), ("i", "<", 5))
        self.assertEqual(I.field, "i")
        self.assertEqual((Both(I, T).a, Both(I, T).b), (I, T))
        self.assertEqual((Either(I, T).a, Either(I, T).b), (I, T))
        self.assertEqual(Negation(I).a, I)

    def test_choices_are_copied(self):
        choices = [1, 2]
        condition = OneOf("i", choices)
        self.assertEqual((condition.field, condition.choices), ("i", (1, 2)))
        self.assertIs(type(condition.choices), tuple)
        choices.append(3)
        self.assertEqual(condition.choices, (1, 2))

    def test_classes(self):
        for condition in (Every(), I, Compare("i", "=", 1), OneOf("i", [1]), Both(I, T), Either(I, T), Negation(I)):
            self.assertIsInstance(condition, Condition)

    def test_operators(self):
        for a in (I, Every(), Both(I, T), Either(I, T), Negation(I), Compare("i", "=", 1), OneOf("i", [1])):
            both, either, negation = a & F, a | F, ~a
            self.assertIs(type(both), Both)
            self.assertEqual((both.a, both.b), (a, F))
            self.assertIs(type(either), Either)
            self.assertEqual((either.a, either.b), (a, F))
            self.assertIs(type(negation), Negation)
            self.assertEqual(negation.a, a)


class EqualityTest(unittest.TestCase):
    def conditions(self):
        """Conditions that are all different, new ones each time."""
        return [
            Every(), Has("i"), Has("t"), Has("f"),
            Compare("i", "=", 1), Compare("i", "!=", 1), Compare("i", "=", 2), Compare("j", "=", 1),
            Compare("i", "=", True), Compare("i", "=", "1"), Compare("i", "=", 0), Compare("i", "=", False),
            OneOf("i", [1]), OneOf("i", [1, 2]), OneOf("i", [2, 1]), OneOf("j", [1]), OneOf("i", [1, 1]),
            OneOf("i", [True]), OneOf("i", [1, True]), OneOf("i", [True, 1]), OneOf("i", ["1"]), OneOf("i", []),
            Both(Has("i"), Has("t")), Both(Has("t"), Has("i")), Both(Has("i"), Has("i")),
            Either(Has("i"), Has("t")), Either(Has("t"), Has("i")), Either(Has("i"), Has("i")),
            Negation(Has("i")), Negation(Has("t")), Negation(Negation(Has("i"))), Negation(Every()),
            Negation(Compare("i", "=", 1)), Negation(Compare("i", "=", True)),
            Both(Both(Has("i"), Has("t")), Has("f")), Both(Has("i"), Both(Has("t"), Has("f"))),
        ]

    def test_equal_only_to_the_same(self):
        ones, others = self.conditions(), self.conditions()
        for k, one in enumerate(ones):
            for j, other in enumerate(others):
                self.assertIs(one == other, k == j, (str(one), str(other)))
                self.assertIs(one != other, k != j, (str(one), str(other)))

    def test_lists_and_tuples(self):
        self.assertTrue(OneOf("i", [1, 2]) == OneOf("i", (1, 2)))

    def test_not_equal_to_other_values(self):
        for condition in self.conditions():
            for other in (None, 1, "every", "has i", "i", ("i",), object()):
                self.assertFalse(condition == other)
                self.assertTrue(condition != other)

    def test_long_conditions(self):
        one, other, third = I, Has("i"), T
        for _ in range(199):
            one, other, third = one & T, other & Has("t"), third & T
        self.assertTrue(one == other)
        self.assertFalse(one == third)


class TextTest(unittest.TestCase):
    def test_single(self):
        self.assertEqual(str(Every()), "every")
        self.assertEqual(str(I), "has i")
        self.assertEqual(str(Compare("i", "=", 5)), "i = 5")
        self.assertEqual(str(Compare("i", "<=", -5)), "i <= -5")
        self.assertEqual(str(Compare("f", "!=", True)), "f != true")
        self.assertEqual(str(Compare("f", ">", False)), "f > false")
        self.assertEqual(str(Compare("t", ">=", "a b")), 't >= "a b"')
        self.assertEqual(str(Compare("t", "<", "")), 't < ""')

    def test_backslashes(self):
        self.assertEqual(str(Compare("t", "=", 'a"b')), 't = "a\\"b"')
        self.assertEqual(str(Compare("t", "=", "a\\b")), 't = "a\\\\b"')
        self.assertEqual(str(Compare("t", "=", '\\"')), 't = "\\\\\\""')

    def test_lists(self):
        self.assertEqual(str(OneOf("i", [1])), "i in [1]")
        self.assertEqual(str(OneOf("i", [3, -1, 3])), "i in [3, -1, 3]")
        self.assertEqual(str(OneOf("f", [True, False])), "f in [true, false]")
        self.assertEqual(str(OneOf("t", ["a, b", '"'])), 't in ["a, b", "\\""]')

    def test_not(self):
        self.assertEqual(str(~I), "not has i")
        self.assertEqual(str(~~I), "not not has i")
        self.assertEqual(str(~Every()), "not every")
        self.assertEqual(str(~Compare("i", "=", 1)), "not i = 1")
        self.assertEqual(str(~OneOf("i", [1, 2])), "not i in [1, 2]")
        self.assertEqual(str(~(I & T)), "not (has i and has t)")
        self.assertEqual(str(~(I | T)), "not (has i or has t)")
        self.assertEqual(str(~~(I | T)), "not not (has i or has t)")

    def test_and_or(self):
        self.assertEqual(str(I & T), "has i and has t")
        self.assertEqual(str(I | T), "has i or has t")
        self.assertEqual(str(Compare("i", "=", 1) & ~OneOf("t", ["x"])), 'i = 1 and not t in ["x"]')
        self.assertEqual(str(~I & ~T), "not has i and not has t")

    def test_parts_in_brackets(self):
        self.assertEqual(str((I & T) & F), "(has i and has t) and has f")
        self.assertEqual(str(I & (T & F)), "has i and (has t and has f)")
        self.assertEqual(str((I | T) | F), "(has i or has t) or has f")
        self.assertEqual(str(I | (T | F)), "has i or (has t or has f)")
        self.assertEqual(str((I & T) | F), "(has i and has t) or has f")
        self.assertEqual(str(I | (T & F)), "has i or (has t and has f)")
        self.assertEqual(str((I | T) & F), "(has i or has t) and has f")
        self.assertEqual(str(I & (T | F)), "has i and (has t or has f)")
        self.assertEqual(str((I & T) & (T | F)), "(has i and has t) and (has t or has f)")
        self.assertEqual(str(((I & T) & F) | ~(I | T)), "((has i and has t) and has f) or not (has i or has t)")

    def test_classes_and_operators_write_the_same(self):
        self.assertEqual(str(Either(Both(I, Negation(T)), F)), str((I & ~T) | F))

    def test_filters_as_read(self):
        for text, written in (
            ("  every ", "every"),
            ("has i and has t and has f", "(has i and has t) and has f"),
            ("has i or has t and i=1", "has i or (has t and i = 1)"),
            ("((has i))", "has i"),
            ("not(not(i in[1,2]))", "not not i in [1, 2]"),
            ('t<"\\\\"or f=false', 't < "\\\\" or f = false'),
        ):
            self.assertEqual(str(read_filter(SCHEMA, text)), written)

    def test_read_back(self):
        simple = [Every(), I, T, F, OneOf("i", [1, -2]), OneOf("t", ["", 'a"\\b ']), OneOf("f", [True])]
        simple += [Compare("i", sign, -7) for sign in SIGNS] + [Compare("t", sign, '\\\\""') for sign in SIGNS]
        simple += [Compare("f", sign, False) for sign in SIGNS]
        pairs = [join(a, b) for a in simple for b in simple[:5] for join in (Both, Either)]
        nested = [join(a, b) for a in pairs[::7] for b in pairs[::11] for join in (Both, Either)]
        for condition in simple + pairs + nested:
            self.assertEqual(read_filter(SCHEMA, str(condition)), condition)
            self.assertEqual(read_filter(SCHEMA, str(~condition)), ~condition)

    def test_read_back_as_deep_as_possible(self):
        left, right = I, I
        for _ in range(41):
            left, right = left & T, T | right
        self.assertEqual(read_filter(SCHEMA, str(left)), left)
        self.assertEqual(read_filter(SCHEMA, str(right)), right)

    def test_long_conditions(self):
        condition = I
        for _ in range(199):
            condition = condition & T
        self.assertEqual(str(condition), "(" * 198 + "has i and has t" + ") and has t" * 198)


if __name__ == "__main__":
    unittest.main()
