"""Points [12], [13], [15] and [16]: schemas, and when a record is of one."""

import unittest

from surenear.errors import InvalidRecord, InvalidSchema
from surenear.records.record import Record
from surenear.records.schema import Schema

FIELDS = (("age", "integer"), ("tag", "text"), ("on", "flag"))
RESERVED = ("every", "has", "in", "and", "or", "not", "true", "false")


class ValidSchemaTest(unittest.TestCase):
    def test_fields(self):
        schema = Schema(3, width="bit", measure="bits", fields=[["age", "integer"], ["on", "flag"]])
        self.assertEqual((schema.size, schema.width, schema.measure), (3, "bit", "bits"))
        self.assertEqual(schema.fields, (("age", "integer"), ("on", "flag")))
        self.assertIs(type(schema.fields), tuple)
        self.assertIs(type(schema.fields[0]), tuple)

    def test_defaults(self):
        schema = Schema(1)
        self.assertEqual((schema.size, schema.width, schema.measure, schema.fields), (1, "small", "square", ()))

    def test_all_but_the_size_by_keyword(self):
        with self.assertRaises(TypeError):
            Schema(1, "small")

    def test_arguments_are_neither_kept_nor_changed(self):
        fields = [["age", "integer"]]
        schema = Schema(1, fields=fields)
        self.assertEqual(fields, [["age", "integer"]])
        fields[0][0] = "x"
        fields.append(["on", "flag"])
        self.assertEqual(schema.fields, (("age", "integer"),))

    def test_widths_and_measures(self):
        for width in ("bit", "small", "wide"):
            for measure in ("square", "dot"):
                schema = Schema(2, width=width, measure=measure)
                self.assertEqual((schema.width, schema.measure), (width, measure))
        self.assertEqual(Schema(2, width="bit", measure="bits").measure, "bits")

    def test_field_names(self):
        for name in ("a", "Z", "_", "_1", "a1", "aZ_09", "every1", "Every", "_not", "TRUE", "nothing", "integer"):
            self.assertEqual(Schema(1, fields=[(name, "text")]).kind_of(name), "text")

    def test_names_that_differ_only_in_case(self):
        schema = Schema(1, fields=[("a", "text"), ("A", "flag")])
        self.assertEqual((schema.kind_of("a"), schema.kind_of("A")), ("text", "flag"))

    def test_least_and_greatest(self):
        for width, least, greatest in (("bit", 0, 1), ("small", -128, 127), ("wide", -32768, 32767)):
            schema = Schema(1, width=width)
            self.assertEqual((schema.least, schema.greatest), (least, greatest))
        self.assertIsInstance(Schema.__dict__["least"], property)
        self.assertIsInstance(Schema.__dict__["greatest"], property)

    def test_kind_of(self):
        schema = Schema(1, fields=FIELDS)
        self.assertEqual([schema.kind_of(name) for name in ("age", "tag", "on")], ["integer", "text", "flag"])
        for name in ("Age", "ag", "", "every", "integer"):
            self.assertIsNone(schema.kind_of(name))
        self.assertIsNone(Schema(1).kind_of("age"))

    def test_equality(self):
        schema = Schema(2, width="bit", measure="dot", fields=FIELDS)
        self.assertTrue(schema == Schema(2, width="bit", measure="dot", fields=[list(pair) for pair in FIELDS]))
        self.assertFalse(schema != Schema(2, width="bit", measure="dot", fields=FIELDS))
        for other in (
            Schema(3, width="bit", measure="dot", fields=FIELDS),
            Schema(2, width="small", measure="dot", fields=FIELDS),
            Schema(2, width="bit", measure="bits", fields=FIELDS),
            Schema(2, width="bit", measure="dot", fields=FIELDS[:2]),
            Schema(2, width="bit", measure="dot", fields=FIELDS[::-1]),
            Schema(2, width="bit", measure="dot"),
        ):
            self.assertFalse(schema == other)
            self.assertFalse(other == schema)
            self.assertTrue(schema != other)

    def test_not_equal_to_other_values(self):
        for other in (1, None, "small", (1, "small", "square", ()), object()):
            self.assertFalse(Schema(1) == other)
            self.assertTrue(Schema(1) != other)


class InvalidSchemaTest(unittest.TestCase):
    def assert_invalid(self, *args, **more):
        with self.subTest(args=args, **more), self.assertRaises(InvalidSchema):
            Schema(*args, **more)

    def test_size(self):
        self.assert_invalid(0)
        self.assert_invalid(-1)
        self.assert_invalid(-100)

    def test_width(self):
        for width in ("", "huge", "Small", "bits", "square", "smal", "integer"):
            self.assert_invalid(1, width=width)

    def test_measure(self):
        for measure in ("", "cosine", "Square", "bit", "small", "squares"):
            self.assert_invalid(1, measure=measure)
            self.assert_invalid(1, measure=measure, width="bit")

    def test_bits_need_the_width_bit(self):
        self.assert_invalid(1, measure="bits")
        self.assert_invalid(1, measure="bits", width="small")
        self.assert_invalid(1, measure="bits", width="wide")

    def test_kind(self):
        for kind in ("", "float", "Integer", "string", "flags", "small"):
            self.assert_invalid(1, fields=[("a", kind)])
            self.assert_invalid(1, fields=[("b", "text"), ("a", kind)])

    def test_field_name(self):
        for name in ("", "1", "1a", "a-b", "a b", " a", "a ", "-", "a.b", "a$", '"a"', "a\\", "~", "a@", "a[", "a`",
                     "a{", "a/", "a:"):
            self.assert_invalid(1, fields=[(name, "integer")])
            self.assert_invalid(1, fields=[("b", "text"), (name, "integer")])

    def test_reserved_words(self):
        for name in RESERVED:
            self.assert_invalid(1, fields=[(name, "flag")])
            self.assert_invalid(1, fields=[("b", "text"), (name, "flag")])

    def test_two_fields_of_one_name(self):
        self.assert_invalid(1, fields=[("a", "integer"), ("a", "integer")])
        self.assert_invalid(1, fields=[("a", "integer"), ("a", "text")])
        self.assert_invalid(1, fields=[("a", "integer"), ("b", "text"), ("a", "flag")])


class OfSchemaTest(unittest.TestCase):
    def setUp(self):
        self.schema = Schema(2, fields=FIELDS)

    def assert_of(self, schema, record):
        self.assertIs(record in schema, True)
        self.assertIs(record not in schema, False)
        self.assertIsNone(schema.check(record))

    def assert_not_of(self, schema, record):
        self.assertIs(record in schema, False)
        with self.assertRaises(InvalidRecord):
            schema.check(record)

    def test_whole_record(self):
        fields = [("age", -3), ("tag", ""), ("on", False)]
        self.assert_of(self.schema, Record("n", [1, 2], fields=fields, words=[("a", 1), ("b", 99)]))

    def test_without_fields_and_words(self):
        self.assert_of(self.schema, Record(" ", [1, 2]))

    def test_name(self):
        self.assert_not_of(self.schema, Record("", [1, 2]))
        self.assert_of(self.schema, Record("~", [1, 2]))

    def test_size(self):
        for vector in ([], [1], [1, 2, 3]):
            self.assert_not_of(self.schema, Record("n", vector))

    def test_width(self):
        for width, least, greatest in (("bit", 0, 1), ("small", -128, 127), ("wide", -32768, 32767)):
            schema = Schema(2, width=width)
            self.assert_of(schema, Record("n", [least, greatest]))
            self.assert_of(schema, Record("n", [greatest, least]))
            for wrong in ([least - 1, 0], [0, least - 1], [greatest + 1, 0], [0, greatest + 1]):
                self.assert_not_of(schema, Record("n", wrong))

    def test_some_of_the_fields(self):
        for fields in ([("age", 0)], [("tag", "x")], [("on", True)], [("age", 1), ("on", True)],
                       [("tag", "x"), ("on", True)], [("age", 1), ("tag", "x")]):
            self.assert_of(self.schema, Record("n", [1, 2], fields=fields))

    def test_unknown_field(self):
        for fields in ([("other", 1)], [("age", 1), ("other", 1)], [("Age", 1)], [("", 1)], [("other", 1), ("on", True)]):
            self.assert_not_of(self.schema, Record("n", [1, 2], fields=fields))
        self.assert_not_of(Schema(2), Record("n", [1, 2], fields=[("age", 1)]))

    def test_order_of_fields(self):
        for fields in ([("tag", "x"), ("age", 1)], [("on", True), ("tag", "x")], [("on", True), ("age", 1)],
                       [("age", 1), ("on", True), ("tag", "x")]):
            self.assert_not_of(self.schema, Record("n", [1, 2], fields=fields))

    def test_field_twice(self):
        self.assert_not_of(self.schema, Record("n", [1, 2], fields=[("age", 1), ("age", 1)]))
        self.assert_not_of(self.schema, Record("n", [1, 2], fields=[("age", 1), ("on", True), ("on", False)]))
        self.assert_not_of(self.schema, Record("n", [1, 2], fields=[("age", 1), ("tag", "x"), ("age", 1)]))

    def test_kind_of_value(self):
        for name, wrong in (("age", ("1", "", True, False)), ("tag", (1, 0, True, False)), ("on", (1, 0, "true", ""))):
            for worth in wrong:
                self.assert_not_of(self.schema, Record("n", [1, 2], fields=[(name, worth)]))
        self.assert_of(self.schema, Record("n", [1, 2], fields=[("age", 10 ** 30)]))

    def test_order_of_words(self):
        for words in ([("a", 1), ("ab", 1), ("b", 1)], [("B", 1), ("a", 1)], [(" ", 1), ("~", 1)]):
            self.assert_of(self.schema, Record("n", [1, 2], words=words))
            self.assert_not_of(self.schema, Record("n", [1, 2], words=words[::-1]))
        self.assert_not_of(self.schema, Record("n", [1, 2], words=[("a", 1), ("c", 1), ("b", 1)]))

    def test_word_twice(self):
        self.assert_not_of(self.schema, Record("n", [1, 2], words=[("a", 1), ("a", 1)]))
        self.assert_not_of(self.schema, Record("n", [1, 2], words=[("a", 1), ("b", 1), ("b", 2)]))

    def test_empty_word(self):
        self.assert_not_of(self.schema, Record("n", [1, 2], words=[("", 1)]))
        self.assert_not_of(self.schema, Record("n", [1, 2], words=[("", 1), ("a", 1)]))

    def test_count(self):
        for count in (0, -1):
            self.assert_not_of(self.schema, Record("n", [1, 2], words=[("a", count)]))
            self.assert_not_of(self.schema, Record("n", [1, 2], words=[("a", 1), ("b", count)]))
        self.assert_of(self.schema, Record("n", [1, 2], words=[("a", 1), ("b", 10 ** 20)]))


class FarTest(unittest.TestCase):
    def test_square(self):
        schema = Schema(3)
        self.assertEqual(schema.far([1, -2, 3], (4, 5, -6)), 9 + 49 + 81)
        self.assertEqual(schema.far([1, -2, 3], [1, -2, 3]), 0)

    def test_dot(self):
        schema = Schema(3, measure="dot")
        self.assertEqual(schema.far([1, -2, 3], [4, 5, -6]), 24)
        self.assertEqual(schema.far((1, 2, 3), [4, 5, 6]), -32)

    def test_bits(self):
        schema = Schema(4, width="bit", measure="bits")
        self.assertEqual(schema.far([0, 1, 1, 0], [1, 1, 0, 0]), 2)
        self.assertEqual(schema.far([0, 1, 1, 0], [0, 1, 1, 0]), 0)
        self.assertEqual(schema.far((0, 0, 0, 0), (1, 1, 1, 1)), 4)

    def test_other_measures_of_bits(self):
        self.assertEqual(Schema(3, width="bit").far([0, 1, 1], [1, 0, 1]), 2)
        self.assertEqual(Schema(3, width="bit", measure="dot").far([0, 1, 1], [1, 0, 1]), -1)

    def test_vectors_stay_as_they_were(self):
        a, b = [0, 1, 1], [1, 0, 1]
        for measure in ("square", "dot", "bits"):
            Schema(3, width="bit", measure=measure).far(a, b)
        self.assertEqual((a, b), ([0, 1, 1], [1, 0, 1]))


if __name__ == "__main__":
    unittest.main()
