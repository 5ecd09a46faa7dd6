"""Points [6], [26] and [27]: which queries are invalid, what records cost, and their order."""

import itertools
import unittest

from surenear.basics.ranks import Rank
from surenear.costs.query import Query
from surenear.costs.question import MOST_COUNT, Question
from surenear.errors import InvalidFilter, InvalidQuery, SurenearError
from surenear.filters.conditions import Compare, Every, Has
from surenear.records.record import Record
from surenear.records.schema import Schema

SCHEMA = Schema(2, fields=[("i", "integer"), ("t", "text")])
DOT = Schema(2, measure="dot")
BITS = Schema(3, width="bit", measure="bits")


def counted(**words):
    """A record at 0 with some words."""
    return Record("n", [0, 0], words=sorted(words.items()))


class InvalidTest(unittest.TestCase):
    def refuses(self, schema, *vector, **more):
        vector = list(vector[0]) if vector else [0] * schema.size
        with self.assertRaises(InvalidQuery) as caught:
            Question(schema, Query(vector, **more))
        self.assertIsInstance(caught.exception, SurenearError)

    def test_size_of_the_vector(self):
        for vector in ([], [0], [0, 0, 0]):
            self.refuses(SCHEMA, vector)
        Question(SCHEMA, Query([0, 0]))

    def test_width_of_the_vector(self):
        for width, least, greatest in (("bit", 0, 1), ("small", -128, 127), ("wide", -32768, 32767)):
            schema = Schema(2, width=width)
            for vector in ([least, greatest], [greatest, least]):
                self.assertEqual(Question(schema, Query(vector)).query.vector, tuple(vector))
            for number in (least - 1, greatest + 1):
                self.refuses(schema, [number, 0])
                self.refuses(schema, [0, number])

    def test_near(self):
        self.refuses(SCHEMA, near=-1)
        self.refuses(SCHEMA, near=-100)
        for near in (0, 1, 10 ** 30):
            self.assertEqual(Question(SCHEMA, Query([0, 0], near=near)).query.near, near)

    def test_weights(self):
        self.refuses(SCHEMA, words=[("a", -1)])
        self.refuses(SCHEMA, words=[("a", 1), ("b", -1), ("c", 1)])
        self.refuses(SCHEMA, words=[("a", 1), ("b", 0), ("c", -9)])
        Question(SCHEMA, Query([0, 0], words=[("a", 0), ("b", 10 ** 30)]))

    def test_most(self):
        for most in (0, -1):
            self.refuses(SCHEMA, most=most)
        Question(SCHEMA, Query([0, 0], most=1))

    def test_a_word_that_stands_twice(self):
        self.refuses(SCHEMA, words=[("a", 1), ("a", 1)])
        self.refuses(SCHEMA, words=[("a", 1), ("b", 1), ("a", 2)])
        Question(SCHEMA, Query([0, 0], words=[("b", 1), ("a", 1), ("A", 1), ("", 1)]))

    def test_invalid_filter(self):
        for text, fault, place in (("", "no condition", 0), ("has x", "no field", 4), ("i = 1 and", "no condition", 9),
                                   ('t = "', "open text", 4), ('i = "a"', "wrong kind", 4)):
            with self.assertRaises(InvalidFilter) as caught:
                Question(SCHEMA, Query([0, 0], text=text))
            self.assertEqual((caught.exception.fault, caught.exception.place), (fault, place))

    def test_the_filter_is_looked_at_last(self):
        for wrong in ({"near": -1}, {"words": [("a", -1)]}, {"most": 0}, {"words": [("a", 1), ("a", 1)]}):
            self.refuses(SCHEMA, text="(", **wrong)
        self.refuses(SCHEMA, [0], text="")
        self.refuses(SCHEMA, [0, 128], text="has x")

    def test_fields_of_the_schema(self):
        with self.assertRaises(InvalidFilter):
            Question(DOT, Query([0, 0], text="has i"))


class QuestionTest(unittest.TestCase):
    def test_fields(self):
        query = Query([1, 2], text="i < 3")
        question = Question(SCHEMA, query)
        self.assertEqual((question.schema, question.query), (SCHEMA, query))
        self.assertEqual(question.condition, Compare("i", "<", 3))
        self.assertEqual(Question(SCHEMA, Query([1, 2])).condition, Every())
        self.assertEqual(Question(SCHEMA, Query([1, 2], text="has t")).condition, Has("t"))

    def test_passes(self):
        question = Question(SCHEMA, Query([0, 0], text="i < 3 or not has t"))
        for fields, passes in (([("i", 2)], True), ([("i", 3)], True), ([("i", 3), ("t", "")], False),
                               ([("i", 2), ("t", "")], True), ([], True), ([("t", "x")], False)):
            self.assertIs(question.passes(Record("n", [0, 0], fields=fields)), passes)


class CostTest(unittest.TestCase):
    def test_square(self):
        record = Record("n", [4, -1])
        for vector, near, cost in (([4, -1], 1, 0), ([1, 3], 1, 25), ([1, 3], 4, 100), ([1, 3], 0, 0), ([5, -1], 1, 1)):
            self.assertEqual(Question(SCHEMA, Query(vector, near=near)).cost(record), cost)

    def test_dot(self):
        record = Record("n", [4, -1])
        for vector, near, cost in (([2, 3], 1, -5), ([2, 3], 3, -15), ([-1, 1], 1, 5), ([1, 4], 7, 0), ([2, 3], 0, 0)):
            self.assertEqual(Question(DOT, Query(vector, near=near)).cost(record), cost)

    def test_bits(self):
        record = Record("n", [1, 0, 1])
        for vector, near, cost in (([1, 0, 1], 1, 0), ([0, 1, 0], 1, 3), ([1, 1, 1], 5, 5), ([0, 0, 0], 5, 10)):
            self.assertEqual(Question(BITS, Query(vector, near=near)).cost(record), cost)

    def test_words(self):
        question = Question(SCHEMA, Query([0, 0], words=[("b", 10), ("a", 3), ("z", 0)]))
        for words, cost in (({}, 0), ({"a": 1}, -3), ({"a": 2}, -6), ({"b": 1}, -10), ({"a": 2, "b": 3}, -36),
                            ({"c": 5}, 0), ({"z": 5}, 0), ({"A": 1}, 0), ({"a": 1, "c": 9}, -3)):
            self.assertEqual(question.cost(counted(**words)), cost, words)

    def test_greatest_count(self):
        self.assertEqual(MOST_COUNT, 15)
        question = Question(SCHEMA, Query([0, 0], words=[("a", 2), ("b", 100)]))
        for count, cost in ((1, -2), (14, -28), (15, -30), (16, -30), (1000, -30)):
            self.assertEqual(question.cost(counted(a=count)), cost)
        self.assertEqual(question.cost(counted(a=16, b=17)), -1530)

    def test_distance_and_words(self):
        record = Record("n", [3, 4], words=[("a", 2)])
        self.assertEqual(Question(SCHEMA, Query([0, 0], near=2, words=[("a", 7)])).cost(record), 36)
        self.assertEqual(Question(SCHEMA, Query([0, 0], near=0, words=[("a", 7)])).cost(record), -14)
        self.assertEqual(Question(DOT, Query([1, 1], near=2, words=[("a", 7)])).cost(record), -28)

    def test_the_filter_does_not_matter(self):
        record = Record("n", [3, 4])
        self.assertEqual(Question(SCHEMA, Query([0, 0], text="not every")).cost(record), 25)

    def test_rank(self):
        question = Question(SCHEMA, Query([1, 1], near=3))
        self.assertEqual(question.rank(Record("ab", [1, 2])), Rank(3, "ab"))
        self.assertEqual(question.rank(Record("", [1, 1])), Rank(0, ""))


class FirstTest(unittest.TestCase):
    def records(self):
        places = {"d": 1, "b": 2, "a": 2, "e": 0, "c": -2, "f": 9}
        return [Record(name, [place, 0], fields=[("i", place)]) for name, place in places.items()]

    def first(self, records, **more):
        return [record.name for record in Question(SCHEMA, Query([0, 0], **more)).first(records)]

    def test_order_and_most(self):
        for most, names in ((1, "e"), (2, "ed"), (3, "eda"), (4, "edab"), (5, "edabc"), (6, "edabcf"), (7, "edabcf"),
                            (100, "edabcf")):
            for records in itertools.permutations(self.records(), 6):
                self.assertEqual("".join(self.first(list(records), most=most)), names)

    def test_filter(self):
        for text, names in (("i > 0", "dabf"), ("i = 2", "ab"), ("i < -2", ""), ("not has t", "edabcf"), ("has t", "")):
            self.assertEqual("".join(self.first(self.records(), text=text, most=9)), names)
        self.assertEqual(self.first(self.records(), text="i > 1", most=2), ["a", "b"])

    def test_no_records(self):
        self.assertEqual(self.first([]), [])

    def test_names_in_order(self):
        records = [Record(name, [0, 0]) for name in ("b", "ab", "a", "", "B", "~", " ")]
        self.assertEqual(self.first(records, most=9), ["", " ", "B", "a", "ab", "b", "~"])

    def test_ties_keep_their_order(self):
        places = ([0, 3], [3, 0], [-3, 0], [0, -3])
        for vectors in itertools.permutations(places):
            records = [Record("n", vector) for vector in vectors] + [Record("m", [0, 3])]
            found = Question(SCHEMA, Query([0, 0], most=5)).first(records)
            self.assertEqual([record.vector for record in found], [(0, 3)] + [tuple(vector) for vector in vectors])

    def test_duplicates_stay(self):
        self.assertEqual(self.first(self.records() + self.records(), most=4), ["e", "e", "d", "d"])

    def test_a_new_list(self):
        records = self.records()
        question = Question(SCHEMA, Query([0, 0], most=9))
        found = question.first(records)
        self.assertIs(type(found), list)
        found.clear()
        self.assertEqual(records, self.records())
        self.assertEqual(len(question.first(tuple(records))), 6)


if __name__ == "__main__":
    unittest.main()
