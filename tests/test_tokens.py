"""Point [20]: tokens, and the first three faults of point [23]."""

import unittest

from surenear.errors import InvalidFilter
from surenear.filters.tokens import Token, read_tokens

SIGNS = ("!=", "<=", ">=", "(", ")", "[", "]", ",", "=", "<", ">")


def plain(text):
    """The tokens of a text as tuples."""
    return [(token.kind, token.value, token.place) for token in read_tokens(text)]


class TokenTest(unittest.TestCase):
    def test_fields(self):
        token = Token("word", "a", 3)
        self.assertEqual((token.kind, token.value, token.place), ("word", "a", 3))

    def test_equality(self):
        self.assertTrue(Token("word", "a", 3) == Token("word", "a", 3))
        self.assertFalse(Token("word", "a", 3) != Token("word", "a", 3))
        for other in (Token("text", "a", 3), Token("word", "b", 3), Token("word", "a", 4)):
            self.assertFalse(Token("word", "a", 3) == other)
            self.assertTrue(Token("word", "a", 3) != other)

    def test_not_equal_to_other_values(self):
        for other in (("word", "a", 3), "a", 3, None, object()):
            self.assertFalse(Token("word", "a", 3) == other)
            self.assertTrue(Token("word", "a", 3) != other)


class ReadTokensTest(unittest.TestCase):
    def test_no_tokens(self):
        self.assertEqual(read_tokens(""), [])
        self.assertEqual(read_tokens("   "), [])

    def test_gives_tokens(self):
        self.assertEqual(read_tokens("a 1"), [Token("word", "a", 0), Token("integer", 1, 2)])
        self.assertIs(type(read_tokens("a")), list)
        self.assertIs(type(read_tokens("a")[0]), Token)

    def test_words(self):
        for word in ("a", "Z", "_", "_1", "az09_AZ", "every", "and", "true", "__"):
            self.assertEqual(plain(word), [("word", word, 0)])
        self.assertEqual(plain("  a b1  c "), [("word", "a", 2), ("word", "b1", 4), ("word", "c", 8)])

    def test_integers(self):
        for text, value in (("0", 0), ("7", 7), ("10", 10), ("-1", -1), ("-90", -90), ("1234567890", 1234567890)):
            self.assertEqual(plain(text), [("integer", value, 0)])
            self.assertIs(type(read_tokens(text)[0].value), int)
        self.assertEqual(plain("9" * 1000), [("integer", 10 ** 1000 - 1, 0)])
        self.assertEqual(plain("-" + "9" * 1000), [("integer", 1 - 10 ** 1000, 0)])

    def test_texts(self):
        self.assertEqual(plain('"ab c"'), [("text", "ab c", 0)])
        self.assertEqual(plain('""'), [("text", "", 0)])
        self.assertEqual(plain(' "a"  "b"'), [("text", "a", 1), ("text", "b", 6)])
        self.assertEqual(plain('"a""b"'), [("text", "a", 0), ("text", "b", 3)])
        self.assertEqual(plain('"(<=1 or $.-"'), [("text", "(<=1 or $.-", 0)])

    def test_backslashes(self):
        self.assertEqual(plain('"a\\"b"'), [("text", 'a"b', 0)])
        self.assertEqual(plain('"a\\\\b"'), [("text", "a\\b", 0)])
        self.assertEqual(plain('"\\\\"'), [("text", "\\", 0)])
        self.assertEqual(plain('"\\""'), [("text", '"', 0)])
        self.assertEqual(plain('"\\\\\\""x'), [("text", '\\"', 0), ("word", "x", 6)])
        self.assertEqual(plain('"\\\\" "\\\\"'), [("text", "\\", 0), ("text", "\\", 5)])

    def test_signs(self):
        for sign in SIGNS:
            self.assertEqual(plain(sign), [("sign", sign, 0)])
            self.assertEqual(plain(" " + sign + " "), [("sign", sign, 1)])

    def test_as_long_as_possible(self):
        self.assertEqual(plain("<=="), [("sign", "<=", 0), ("sign", "=", 2)])
        self.assertEqual(plain("=<="), [("sign", "=", 0), ("sign", "<=", 1)])
        self.assertEqual(plain("<>"), [("sign", "<", 0), ("sign", ">", 1)])
        self.assertEqual(plain("< ="), [("sign", "<", 0), ("sign", "=", 2)])
        self.assertEqual(plain(">=!="), [("sign", ">=", 0), ("sign", "!=", 2)])
        self.assertEqual(plain("=="), [("sign", "=", 0), ("sign", "=", 1)])

    def test_without_blanks(self):
        self.assertEqual(plain("12ab"), [("integer", 12, 0), ("word", "ab", 2)])
        self.assertEqual(plain("ab12"), [("word", "ab12", 0)])
        self.assertEqual(plain("ab-12"), [("word", "ab", 0), ("integer", -12, 2)])
        self.assertEqual(plain("1-2"), [("integer", 1, 0), ("integer", -2, 1)])
        self.assertEqual(plain("0x"), [("integer", 0, 0), ("word", "x", 1)])
        self.assertEqual(plain("0-5"), [("integer", 0, 0), ("integer", -5, 1)])
        self.assertEqual(plain('a<=-1or(b="x"and c)'), [
            ("word", "a", 0), ("sign", "<=", 1), ("integer", -1, 3), ("word", "or", 5), ("sign", "(", 7),
            ("word", "b", 8), ("sign", "=", 9), ("text", "x", 10), ("word", "and", 13), ("word", "c", 17),
            ("sign", ")", 18),
        ])
        self.assertEqual(plain("f in[1,2]"), [
            ("word", "f", 0), ("word", "in", 2), ("sign", "[", 4), ("integer", 1, 5), ("sign", ",", 6),
            ("integer", 2, 7), ("sign", "]", 8),
        ])

    def test_with_blanks(self):
        self.assertEqual(plain("  a  <=  -1  "), [("word", "a", 2), ("sign", "<=", 5), ("integer", -1, 9)])
        self.assertEqual(plain("1 2"), [("integer", 1, 0), ("integer", 2, 2)])


class FaultsTest(unittest.TestCase):
    def assert_fault(self, text, fault, place):
        with self.subTest(text), self.assertRaises(InvalidFilter) as caught:
            read_tokens(text)
        self.assertEqual((caught.exception.fault, caught.exception.place), (fault, place), text)

    def test_no_token(self):
        for char in "!#$&'*+./:;?@\\^`{|}~":
            self.assert_fault(char, "no token", 0)
            self.assert_fault("a " + char, "no token", 2)
        self.assert_fault("a!b", "no token", 1)
        self.assert_fault("! =", "no token", 0)
        self.assert_fault("a.b", "no token", 1)

    def test_minus_without_a_digit(self):
        self.assert_fault("-", "no token", 0)
        self.assert_fault("a -", "no token", 2)
        self.assert_fault("- 1", "no token", 0)
        self.assert_fault("--1", "no token", 0)
        self.assert_fault("-a", "no token", 0)
        self.assert_fault("1-", "no token", 1)

    def test_no_integer(self):
        self.assert_fault("00", "no integer", 0)
        self.assert_fault("01", "no integer", 0)
        self.assert_fault("  007", "no integer", 2)
        self.assert_fault("a 0123", "no integer", 2)
        self.assert_fault("01a", "no integer", 0)

    def test_minus_and_zero(self):
        self.assert_fault("-0", "no integer", 0)
        self.assert_fault("a -0", "no integer", 2)
        self.assert_fault("-01", "no integer", 0)
        self.assert_fault("-00", "no integer", 0)
        self.assert_fault("1-0", "no integer", 1)

    def test_text_without_an_end(self):
        self.assert_fault('"', "open text", 0)
        self.assert_fault('a "bc', "open text", 2)
        self.assert_fault('"a" "b', "open text", 4)
        self.assert_fault('"a"b"', "open text", 4)
        self.assert_fault('"a\\"', "open text", 0)
        self.assert_fault('"a\\', "open text", 0)
        self.assert_fault('"\\\\\\"', "open text", 0)

    def test_backslash_before_another_character(self):
        self.assert_fault('"a\\b"', "open text", 0)
        self.assert_fault(' "a\\n"', "open text", 1)
        self.assert_fault('"\\ "', "open text", 0)
        self.assert_fault('x "\\\\\\a"', "open text", 2)

    def test_the_first_fault_counts(self):
        self.assert_fault("$ 01", "no token", 0)
        self.assert_fault("01 $", "no integer", 0)
        self.assert_fault('a 01 "', "no integer", 2)
        self.assert_fault('"a 01 $', "open text", 0)
        self.assert_fault('"a\\b" $', "open text", 0)


if __name__ == "__main__":
    unittest.main()
