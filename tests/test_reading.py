"""Points [19], [21] and [23]: how filters are read, and what is none."""

import unittest

from surenear.errors import InvalidFilter
from surenear.filters.conditions import Both, Compare, Either, Every, Has, Negation, OneOf
from surenear.filters.reading import read_filter
from surenear.records.schema import Schema

SCHEMA = Schema(1, fields=[("i", "integer"), ("t", "text"), ("f", "flag"), ("android", "integer"), ("nothing", "flag")])
I, T, F = Has("i"), Has("t"), Has("f")


def read(text):
    return read_filter(SCHEMA, text)


class ReadTest(unittest.TestCase):
    def test_every_and_has(self):
        self.assertEqual(read("every"), Every())
        self.assertEqual(read("  every  "), Every())
        self.assertEqual(read("has i"), I)
        self.assertEqual(read("has t"), T)

    def test_comparisons(self):
        for sign in ("=", "!=", "<", "<=", ">", ">="):
            self.assertEqual(read(f"i {sign} 5"), Compare("i", sign, 5))
            self.assertEqual(read(f"i{sign}-5"), Compare("i", sign, -5))
            self.assertEqual(read(f't {sign} "x"'), Compare("t", sign, "x"))
            self.assertEqual(read(f"f {sign} true"), Compare("f", sign, True))
            self.assertEqual(read(f"f {sign} false"), Compare("f", sign, False))

    def test_kinds_of_values(self):
        self.assertIs(read("f = true").value, True)
        self.assertIs(read("f = false").value, False)
        self.assertIs(type(read("i = 1").value), int)
        self.assertEqual(read('t = "true"').value, "true")
        self.assertEqual(read('t = "1"').value, "1")
        self.assertEqual(read('t = "a\\"\\\\"').value, 'a"\\')

    def test_lists(self):
        self.assertEqual(read("i in [1]"), OneOf("i", [1]))
        self.assertEqual(read("i in[3,-1,3]"), OneOf("i", [3, -1, 3]))
        self.assertEqual(read('t in ["a", ""]'), OneOf("t", ["a", ""]))
        self.assertEqual(read("f in [true, false]"), OneOf("f", [True, False]))

    def test_names_that_begin_like_other_words(self):
        self.assertEqual(read("android = 1 and nothing = true"),
                         Both(Compare("android", "=", 1), Compare("nothing", "=", True)))

    def test_and_or(self):
        self.assertEqual(read("has i and has t"), Both(I, T))
        self.assertEqual(read("has i or has t"), Either(I, T))

    def test_from_left_to_right(self):
        self.assertEqual(read("has i and has t and has f"), Both(Both(I, T), F))
        self.assertEqual(read("has i or has t or has f"), Either(Either(I, T), F))
        self.assertEqual(read("has i and has t and has f and every"), Both(Both(Both(I, T), F), Every()))

    def test_and_binds_tighter_than_or(self):
        self.assertEqual(read("has i or has t and has f"), Either(I, Both(T, F)))
        self.assertEqual(read("has i and has t or has f"), Either(Both(I, T), F))
        self.assertEqual(read("has i and has t or has f and every"), Either(Both(I, T), Both(F, Every())))
        self.assertEqual(read("has i or has t and has f or every"), Either(Either(I, Both(T, F)), Every()))

    def test_not(self):
        self.assertEqual(read("not has i"), Negation(I))
        self.assertEqual(read("not not has i"), Negation(Negation(I)))
        self.assertEqual(read("not has i and has t"), Both(Negation(I), T))
        self.assertEqual(read("has i or not has t"), Either(I, Negation(T)))
        self.assertEqual(read("not i = 1 or every"), Either(Negation(Compare("i", "=", 1)), Every()))

    def test_brackets(self):
        self.assertEqual(read("(has i)"), I)
        self.assertEqual(read("((every))"), Every())
        self.assertEqual(read("has i and (has t and has f)"), Both(I, Both(T, F)))
        self.assertEqual(read("has i or (has t or has f)"), Either(I, Either(T, F)))
        self.assertEqual(read("(has i or has t)and(has f or every)"), Both(Either(I, T), Either(F, Every())))
        self.assertEqual(read("not (has i and has t) or has f"), Either(Negation(Both(I, T)), F))

    def test_two_hundred_conditions(self):
        condition = read(" and ".join(["has i"] * 200))
        for _ in range(199):
            self.assertEqual(condition.b, I)
            condition = condition.a
        self.assertEqual(condition, I)
        self.assertIsInstance(read(" or ".join(["not (every)"] * 200)), Either)

    def test_long_integer(self):
        self.assertEqual(read("i = -" + "9" * 1000), Compare("i", "=", 1 - 10 ** 1000))


class DepthTest(unittest.TestCase):
    def assert_too_deep(self, text, place):
        with self.assertRaises(InvalidFilter) as caught:
            read(text)
        self.assertEqual((caught.exception.fault, caught.exception.place), ("too deep", place))

    def test_forty_nots(self):
        condition = read("not " * 40 + "has i")
        for _ in range(40):
            self.assertIsInstance(condition, Negation)
            condition = condition.a
        self.assertEqual(condition, I)

    def test_forty_brackets(self):
        self.assertEqual(read("(" * 40 + "has i" + ")" * 40), I)

    def test_both_together(self):
        self.assertIsInstance(read("not (" * 20 + "has i" + ")" * 20), Negation)
        self.assert_too_deep("not (" * 20 + "not has i" + ")" * 20, 100)
        self.assert_too_deep("not (" * 20 + "(has i)" + ")" * 20, 100)
        self.assert_too_deep("(" * 39 + "not not has i" + ")" * 39, 43)

    def test_one_more(self):
        self.assert_too_deep("not " * 41 + "has i", 160)
        self.assert_too_deep("(" * 41 + "has i" + ")" * 41, 40)
        self.assert_too_deep("every and " + "(" * 41, 50)

    def test_one_more_behind_something_closed(self):
        self.assert_too_deep("not every and " + "not " * 41, 14 + 160)
        self.assert_too_deep("(every) and " + "(" * 41, 12 + 40)
        self.assert_too_deep("not (not every) or " + "not " * 41, 19 + 160)
        self.assert_too_deep("not (" * 19 + "not (every) and ((not every", 95 + 18)

    def test_before_what_follows(self):
        self.assert_too_deep("(" * 41, 40)
        self.assert_too_deep("not " * 41, 160)

    def test_what_is_closed_is_not_open(self):
        deep = "(" * 39 + "every" + ")" * 39
        self.assertEqual(read(f"({deep} and {deep})"), Both(Every(), Every()))
        read(" and ".join(["(not every)"] * 50))
        read(" or ".join(["not not every"] * 50))
        read("not " * 40 + "every and " + "not " * 40 + "every")
        read("not " * 40 + "i in [1, 2] or " + "(" * 40 + "every" + ")" * 40)

    def test_a_not_is_open_up_to_the_end_of_its_condition(self):
        self.assertIsInstance(read("not " * 39 + "(every and every)"), Negation)
        self.assert_too_deep("not " * 39 + "(every and (every))", 39 * 4 + 11)
        self.assert_too_deep("not " * 39 + "(every and not every)", 39 * 4 + 11)


class FaultsTest(unittest.TestCase):
    def assert_fault(self, text, fault, place):
        for before in ("", "every and ", "has i or i in [1, 2] and not ", "(every) or "):
            with self.subTest(before + text), self.assertRaises(InvalidFilter) as caught:
                read(before + text)
            error = caught.exception
            self.assertEqual((error.fault, error.place), (fault, place + len(before)), before + text)

    def test_tokens(self):
        self.assert_fault("i = -", "no token", 4)
        self.assert_fault("i = 01", "no integer", 4)
        self.assert_fault('t = "a', "open text", 4)

    def test_no_condition(self):
        self.assert_fault("", "no condition", 0)
        self.assert_fault("   ", "no condition", 3)
        for token in (")", "5", '"i"', "=", "]", "[", ",", "-5", "!="):
            self.assert_fault(token, "no condition", 0)
            self.assert_fault("not " + token, "no condition", 4)
            self.assert_fault("(" + token, "no condition", 1)
            self.assert_fault("every and " + token, "no condition", 10)
            self.assert_fault("every or  " + token, "no condition", 10)
        self.assert_fault("not", "no condition", 3)
        self.assert_fault("not ", "no condition", 4)
        self.assert_fault("(", "no condition", 1)
        self.assert_fault("()", "no condition", 1)
        self.assert_fault("every and", "no condition", 9)
        self.assert_fault("every or ", "no condition", 9)

    def test_no_field(self):
        for word in ("x", "and", "or", "in", "true", "false", "I", "integer", "_"):
            self.assert_fault(word, "no field", 0)
            self.assert_fault(word + " = 1", "no field", 0)
            self.assert_fault("not " + word, "no field", 4)
            self.assert_fault("(" + word, "no field", 1)
            self.assert_fault("every and " + word, "no field", 10)
            self.assert_fault("every or " + word, "no field", 9)
        for word in ("x", "and", "or", "in", "true", "false", "not", "every", "has", "I"):
            self.assert_fault("has " + word, "no field", 4)

    def test_no_name(self):
        self.assert_fault("has", "no name", 3)
        self.assert_fault("has  ", "no name", 5)
        for token in ("5", '"i"', "(", ")", "=", "["):
            self.assert_fault("has " + token, "no name", 4)

    def test_no_comparison(self):
        self.assert_fault("i", "no comparison", 1)
        self.assert_fault("i ", "no comparison", 2)
        for token in ("5", '"="', '"in"', "(", ")", "[", "]", ",", "every", "and", "i", "has"):
            self.assert_fault("i " + token, "no comparison", 2)

    def test_in_without_a_list(self):
        self.assert_fault("i in", "no comparison", 2)
        self.assert_fault("i  in  ", "no comparison", 3)
        for token in ("5", "(", "]", "in", "=", "every", '"["'):
            self.assert_fault("i in " + token, "no comparison", 2)

    def test_no_value(self):
        for sign in ("=", "!=", "<", "<=", ">", ">="):
            self.assert_fault(f"i {sign}", "no value", 2 + len(sign))
        for token in ("i", "every", "not", "(", ")", "[", "=", ",", "True", "has"):
            self.assert_fault("i = " + token, "no value", 4)
            self.assert_fault("i in [" + token, "no value", 6)
            self.assert_fault("i in [1, " + token, "no value", 9)
        self.assert_fault("i = ", "no value", 4)
        self.assert_fault("i in []", "no value", 6)
        self.assert_fault("i in [", "no value", 6)
        self.assert_fault("i in [1,]", "no value", 8)
        self.assert_fault("i in [1,", "no value", 8)

    def test_wrong_kind(self):
        for field, values in (("i", ("true", "false", '"1"', '""')), ("t", ("1", "true", "-1", "0")),
                              ("f", ("1", "0", '"true"'))):
            for value in values:
                self.assert_fault(f"{field} = {value}", "wrong kind", 4)
                self.assert_fault(f"{field} >= {value}", "wrong kind", 5)
                self.assert_fault(f"{field} in [{value}]", "wrong kind", 6)
        self.assert_fault('i in [1, "1"]', "wrong kind", 9)
        self.assert_fault("f in [true, 1]", "wrong kind", 12)

    def test_no_end_of_list(self):
        self.assert_fault("i in [1", "no end of list", 7)
        self.assert_fault("i in [1  ", "no end of list", 9)
        for token in ("2", ")", "and", "[", "=", '"]"', '","'):
            self.assert_fault("i in [1 " + token, "no end of list", 8)
            self.assert_fault("i in [1, 2 " + token, "no end of list", 11)

    def test_no_bracket(self):
        self.assert_fault("(every", "no bracket", 6)
        self.assert_fault("(every  ", "no bracket", 8)
        self.assert_fault("(every and (every)", "no bracket", 18)
        for token in ("every", "]", "5", "not", "(", ",", '")"'):
            self.assert_fault("(every " + token, "no bracket", 7)
        self.assert_fault("((every) i", "no bracket", 9)
        self.assert_fault("(i = 1 = 2)", "no bracket", 7)

    def test_no_end(self):
        for token in ("every", ")", "5", "not", "in", "=", '"and"', "true", "[", "x"):
            self.assert_fault("every " + token, "no end", 6)
        self.assert_fault("(every) (every)", "no end", 8)
        self.assert_fault("has i has t", "no end", 6)
        self.assert_fault("i = 1 2", "no end", 6)
        self.assert_fault("i = 12ab", "no end", 6)
        self.assert_fault("i in [1] [2]", "no end", 9)
        self.assert_fault("not every every", "no end", 10)

    def test_tokens_are_read_before_the_filter(self):
        self.assert_fault("every every $", "no token", 12)
        self.assert_fault("x = y 01", "no integer", 6)
        self.assert_fault(') and "', "open text", 6)
        self.assert_fault("(" * 41 + " -", "no token", 42)

    def test_the_first_fault_counts(self):
        self.assert_fault("x y z", "no field", 0)
        self.assert_fault("i = true and x", "wrong kind", 4)
        self.assert_fault("i in [true 5", "wrong kind", 6)
        self.assert_fault("i in [1 true", "no end of list", 8)
        self.assert_fault("(has x", "no field", 5)
        self.assert_fault("(every every) every", "no bracket", 7)
        self.assert_fault("every ) x", "no end", 6)
        self.assert_fault("i in 5 and x", "no comparison", 2)
        self.assert_fault("has 5 and x", "no name", 4)

    def test_errors_of_a_schema_without_fields(self):
        with self.assertRaises(InvalidFilter) as caught:
            read_filter(Schema(1), "i = 1")
        self.assertEqual((caught.exception.fault, caught.exception.place), ("no field", 0))
        self.assertEqual(read_filter(Schema(1), "not every"), Negation(Every()))


if __name__ == "__main__":
    unittest.main()
