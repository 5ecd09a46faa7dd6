"""Point [11]: ranks."""

import unittest

from surenear.basics.ranks import Rank


class RankTest(unittest.TestCase):
    def test_fields_and_pair(self):
        rank = Rank(-5, "ab")
        self.assertEqual((rank.cost, rank.name), (-5, "ab"))
        self.assertEqual(rank.pair, (-5, "ab"))
        self.assertIs(type(rank.pair), tuple)
        self.assertIsInstance(Rank.__dict__["pair"], property)
        self.assertEqual(Rank(name="x", cost=1).pair, (1, "x"))

    def test_before_by_cost(self):
        self.assertIs(Rank(1, "b").before(Rank(2, "a")), True)
        self.assertIs(Rank(2, "a").before(Rank(1, "b")), False)
        self.assertIs(Rank(-2, "a").before(Rank(-1, "a")), True)
        self.assertIs(Rank(-2, "z").before(Rank(1, "a")), True)
        self.assertIs(Rank(9, "a").before(Rank(10, "a")), True)

    def test_before_by_name(self):
        self.assertIs(Rank(1, "a").before(Rank(1, "b")), True)
        self.assertIs(Rank(1, "b").before(Rank(1, "a")), False)
        self.assertIs(Rank(1, "a").before(Rank(1, "ab")), True)
        self.assertIs(Rank(1, "ab").before(Rank(1, "a")), False)
        self.assertIs(Rank(1, "").before(Rank(1, " ")), True)
        self.assertIs(Rank(1, "B").before(Rank(1, "a")), True)
        self.assertIs(Rank(1, "10").before(Rank(1, "9")), True)

    def test_no_rank_is_before_an_equal_one(self):
        rank = Rank(1, "a")
        self.assertIs(rank.before(rank), False)
        self.assertIs(rank.before(Rank(1, "a")), False)

    def test_equality(self):
        self.assertTrue(Rank(1, "a") == Rank(1, "a"))
        self.assertFalse(Rank(1, "a") != Rank(1, "a"))
        self.assertFalse(Rank(1, "a") == Rank(2, "a"))
        self.assertFalse(Rank(1, "a") == Rank(1, "b"))
        self.assertTrue(Rank(1, "a") != Rank(1, "b"))

    def test_equality_with_other_values(self):
        for other in ((1, "a"), [1, "a"], 1, "a", None, object()):
            self.assertFalse(Rank(1, "a") == other)
            self.assertTrue(Rank(1, "a") != other)


if __name__ == "__main__":
    unittest.main()
