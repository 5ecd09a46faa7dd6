"""Point [14]: records."""

import unittest

from surenear.records.record import Record


def sample():
    return Record(
        "n", [1, -2], fields=[("age", 3), ("tag", "x"), ("on", True)], words=[("a", 1), ("b", 20)]
    )


class RecordTest(unittest.TestCase):
    def test_fields_are_tuples(self):
        record = Record("n", [1, -2], fields=[["age", 3], ["on", False]], words=[["a", 1]])
        self.assertEqual(record.name, "n")
        self.assertEqual(record.vector, (1, -2))
        self.assertEqual(record.fields, (("age", 3), ("on", False)))
        self.assertEqual(record.words, (("a", 1),))
        self.assertIs(type(record.vector), tuple)
        self.assertIs(type(record.fields), tuple)
        self.assertIs(type(record.fields[0]), tuple)
        self.assertIs(type(record.words), tuple)
        self.assertIs(type(record.words[0]), tuple)

    def test_defaults(self):
        record = Record("n", (5,))
        self.assertEqual((record.fields, record.words), ((), ()))

    def test_fields_and_words_are_passed_by_keyword(self):
        with self.assertRaises(TypeError):
            Record("n", (5,), ())

    def test_arguments_are_not_kept(self):
        vector, fields, words = [1, 2], [["age", 3]], [["a", 1]]
        record = Record("n", vector, fields=fields, words=words)
        vector[0] = 9
        fields[0][1] = 9
        fields.append(["on", True])
        words[0][1] = 9
        words.append(["b", 1])
        self.assertEqual(record.vector, (1, 2))
        self.assertEqual(record.fields, (("age", 3),))
        self.assertEqual(record.words, (("a", 1),))

    def test_arguments_are_not_changed(self):
        vector, fields, words = [1, 2], [["age", 3]], [["a", 1]]
        Record("n", vector, fields=fields, words=words)
        self.assertEqual((vector, fields, words), ([1, 2], [["age", 3]], [["a", 1]]))

    def test_value(self):
        record = sample()
        self.assertEqual(record.value("age"), 3)
        self.assertEqual(record.value("tag"), "x")
        self.assertIs(record.value("on"), True)
        self.assertIsNone(record.value("other"))
        self.assertIsNone(record.value("a"))
        self.assertIsNone(record.value(""))
        self.assertIsNone(Record("n", (1,)).value("age"))

    def test_values_that_count_as_false(self):
        record = Record("n", (1,), fields=(("i", 0), ("t", ""), ("f", False)))
        self.assertEqual(record.value("i"), 0)
        self.assertEqual(record.value("t"), "")
        self.assertIs(record.value("f"), False)

    def test_value_of_the_first_pair(self):
        self.assertEqual(Record("n", (1,), fields=(("i", 0), ("i", 5))).value("i"), 0)

    def test_count_of(self):
        record = sample()
        self.assertEqual(record.count_of("a"), 1)
        self.assertEqual(record.count_of("b"), 20)
        self.assertEqual(record.count_of("c"), 0)
        self.assertEqual(record.count_of("age"), 0)
        self.assertEqual(Record("n", (1,)).count_of("a"), 0)

    def test_count_of_the_first_pair(self):
        self.assertEqual(Record("n", (1,), words=(("a", 2), ("a", 5))).count_of("a"), 2)

    def test_equal(self):
        self.assertTrue(sample() == sample())
        self.assertFalse(sample() != sample())
        self.assertTrue(Record("n", [1]) == Record("n", (1,), fields=[], words=[]))

    def test_each_field_counts(self):
        one = Record("n", [1], fields=[("i", 1)], words=[("a", 1)])
        for other in (
            Record("m", [1], fields=[("i", 1)], words=[("a", 1)]),
            Record("n", [2], fields=[("i", 1)], words=[("a", 1)]),
            Record("n", [1, 1], fields=[("i", 1)], words=[("a", 1)]),
            Record("n", [1], fields=[("i", 2)], words=[("a", 1)]),
            Record("n", [1], fields=[("j", 1)], words=[("a", 1)]),
            Record("n", [1], words=[("a", 1)]),
            Record("n", [1], fields=[("i", 1)], words=[("a", 2)]),
            Record("n", [1], fields=[("i", 1)], words=[("b", 1)]),
            Record("n", [1], fields=[("i", 1)]),
            Record("n", [1], fields=[("i", 1), ("j", 1)], words=[("a", 1)]),
            Record("n", [1], fields=[("i", 1)], words=[("a", 1), ("b", 1)]),
        ):
            self.assertFalse(one == other)
            self.assertFalse(other == one)
            self.assertTrue(one != other)

    def test_values_of_other_kinds_are_not_equal(self):
        for one, other in ((True, 1), (False, 0), (1, "1"), (True, "true")):
            a, b = Record("n", [1], fields=[("i", one)]), Record("n", [1], fields=[("i", other)])
            self.assertFalse(a == b)
            self.assertFalse(b == a)
        a = Record("n", [1], fields=[("h", 5), ("i", True)])
        b = Record("n", [1], fields=[("h", 5), ("i", 1)])
        self.assertFalse(a == b)
        self.assertTrue(a == Record("n", [1], fields=[("h", 5), ("i", True)]))

    def test_not_equal_to_other_values(self):
        for other in ("n", ("n", (1,), (), ()), None, 1, object()):
            self.assertFalse(Record("n", (1,)) == other)
            self.assertTrue(Record("n", (1,)) != other)


if __name__ == "__main__":
    unittest.main()
