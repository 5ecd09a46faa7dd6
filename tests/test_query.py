"""Points [25] and [4]: queries."""

import unittest

from surenear.costs.query import Query


class QueryTest(unittest.TestCase):
    def test_fields(self):
        query = Query([1, -2], near=3, words=[["sea", 2], ("sun", 0)], text="has a", most=4)
        self.assertEqual(query.vector, (1, -2))
        self.assertEqual(query.near, 3)
        self.assertEqual(query.words, (("sea", 2), ("sun", 0)))
        self.assertEqual(query.text, "has a")
        self.assertEqual(query.most, 4)
        self.assertIs(type(query.vector), tuple)
        self.assertIs(type(query.words), tuple)
        self.assertEqual([type(pair) for pair in query.words], [tuple, tuple])

    def test_defaults(self):
        query = Query([0])
        self.assertEqual((query.near, query.words, query.text, query.most), (1, (), "every", 1))

    def test_keywords_alone(self):
        for arguments in (([0], 1), ([0], 1, ())):
            with self.assertRaises(TypeError):
                Query(*arguments)

    def test_arguments_are_copied(self):
        vector, pair = [1, 2], ["sea", 2]
        words = [pair]
        query = Query(vector, words=words)
        vector.append(3)
        pair[1] = 9
        words.append(("sun", 1))
        self.assertEqual((query.vector, query.words), ((1, 2), (("sea", 2),)))
        self.assertEqual((vector, words), ([1, 2, 3], [["sea", 9], ("sun", 1)]))

    def test_a_query_that_is_invalid_for_a_schema_can_be_made(self):
        query = Query([], near=-1, words=[("a", -1), ("a", 1)], text="(", most=0)
        self.assertEqual((query.vector, query.near, query.most, query.text), ((), -1, 0, "("))

    def test_equality(self):
        def query(**changed):
            told = {"vector": [1, 2], "near": 3, "words": [("a", 1)], "text": "has a", "most": 2}
            return Query(**(told | changed))

        self.assertTrue(query() == query())
        self.assertFalse(query() != query())
        self.assertTrue(query(vector=(1, 2), words=(["a", 1],)) == query())
        self.assertTrue(Query([0]) == Query((0,), near=1, words=[], text="every", most=1))
        for changed in ({"vector": [1, 3]}, {"vector": [1]}, {"near": 4}, {"words": []}, {"words": [("a", 2)]},
                        {"words": [("b", 1)]}, {"text": "has b"}, {"text": "has  a"}, {"most": 3}):
            with self.subTest(changed):
                self.assertFalse(query() == query(**changed))
                self.assertTrue(query() != query(**changed))

    def test_not_equal_to_other_values(self):
        for other in (None, 1, "every", (1, 2), [1, 2], object()):
            self.assertFalse(Query([1, 2]) == other)
            self.assertTrue(Query([1, 2]) != other)


if __name__ == "__main__":
    unittest.main()
