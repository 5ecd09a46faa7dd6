"""Points [7] to [10]: root, vectors, gap and split."""

import math
import unittest
from fractions import Fraction

from surenear.basics.numbers import differing, distance, gap, inner, norm, root, split


def some_vectors(size):
    """Two vectors of a size, with numbers of either sign, some of them equal."""
    a = [(7 * k * k - 11 * k + 3) % 23 - 11 for k in range(size)]
    b = [number if k % 3 == 1 else 5 - number for k, number in enumerate(a)]
    return a, b


class RootTest(unittest.TestCase):
    def test_zero_and_small_numbers(self):
        self.assertEqual([root(k) for k in range(17)], [0, 1, 1, 1, 2, 2, 2, 2, 2, 3, 3, 3, 3, 3, 3, 3, 4])

    def test_greatest_integer_whose_square_is_at_most_the_number(self):
        for number in range(2000):
            found = root(number)
            self.assertTrue(found >= 0 and found * found <= number < (found + 1) * (found + 1), number)

    def test_around_squares(self):
        bases = list(range(1, 300)) + [10 ** k + d for k in range(3, 50) for d in (-1, 0, 1, 7)]
        for k in bases:
            self.assertEqual(root(k * k), k)
            self.assertEqual(root(k * k - 1), k - 1)
            self.assertEqual(root(k * k + 1), k)
            self.assertEqual(root(k * k + 2 * k), k)
            self.assertEqual(root(k * k + 2 * k + 1), k + 1)

    def test_numbers_of_a_hundred_digits(self):
        number = int("7" * 100)
        found = root(number)
        self.assertTrue(found * found <= number < (found + 1) * (found + 1))
        self.assertEqual(root(10 ** 99), math.isqrt(10 ** 99))
        self.assertEqual(root(10 ** 98), 10 ** 49)
        self.assertEqual(root(10 ** 100 - 1), 10 ** 50 - 1)

    def test_below_zero(self):
        for number in (-1, -2, -3, -4, -9, -100, -10 ** 40):
            self.assertEqual(root(number), 0)

    def test_is_an_integer(self):
        for number in (-4, 0, 4, 10 ** 40):
            self.assertIs(type(root(number)), int)


class VectorsTest(unittest.TestCase):
    def test_by_hand(self):
        self.assertEqual(inner([1, -2, 3], [4, 5, -6]), 4 - 10 - 18)
        self.assertEqual(distance([1, -2, 3], [4, 5, -6]), 9 + 49 + 81)
        self.assertEqual(differing([1, -2, 3, 0], [1, 2, 3, 1]), 2)
        self.assertEqual(norm([1, -2, 3]), 14)

    def test_without_numbers(self):
        self.assertEqual(inner([], []), 0)
        self.assertEqual(distance((), []), 0)
        self.assertEqual(differing([], ()), 0)
        self.assertEqual(norm([]), 0)

    def test_of_0_to_12_numbers(self):
        for size in range(13):
            a, b = some_vectors(size)
            product = square = places = length = 0
            for k in range(size):
                product += a[k] * b[k]
                square += (a[k] - b[k]) ** 2
                places += a[k] != b[k]
                length += a[k] ** 2
            with self.subTest(size):
                for one, other in ((a, b), (tuple(a), b), (a, tuple(b)), (tuple(a), tuple(b))):
                    self.assertEqual(inner(one, other), product)
                    self.assertEqual(inner(other, one), product)
                    self.assertEqual(distance(one, other), square)
                    self.assertEqual(distance(other, one), square)
                    self.assertEqual(differing(one, other), places)
                    self.assertEqual(differing(other, one), places)
                self.assertEqual(norm(a), length)
                self.assertEqual(norm(tuple(a)), length)

    def test_equal_vectors(self):
        for size in range(13):
            a, _ = some_vectors(size)
            self.assertEqual(distance(a, list(a)), 0)
            self.assertEqual(differing(a, list(a)), 0)
            self.assertEqual(inner(a, list(a)), norm(a))

    def test_great_numbers(self):
        far = 10 ** 30
        self.assertEqual(distance([far, -far], [-far, far]), 8 * far * far)
        self.assertEqual(inner([far, 1], [far, -1]), far * far - 1)
        self.assertEqual(norm([far, 3]), far * far + 9)

    def test_vectors_stay_as_they_were(self):
        for size in range(13):
            a, b = some_vectors(size)
            kept_a, kept_b = list(a), list(b)
            inner(a, b)
            distance(a, b)
            differing(a, b)
            norm(a)
            self.assertEqual((a, b), (kept_a, kept_b))


class GapTest(unittest.TestCase):
    def test_near_is_less_than_far(self):
        self.assertEqual(gap(9, 4), 1)
        self.assertEqual(gap(10, 3), 3)
        self.assertEqual(gap(25, 4), 9)
        self.assertEqual(gap(5, 0), 5)
        self.assertEqual(gap(5, 4), 1)

    def test_the_root_is_of_four_times_the_product(self):
        self.assertEqual(gap(7, 1), 3)
        self.assertEqual(gap(3, 2), 1)

    def test_near_is_at_least_far(self):
        self.assertEqual(gap(4, 4), 0)
        self.assertEqual(gap(0, 0), 0)
        self.assertEqual(gap(4, 9), 0)
        self.assertEqual(gap(0, 7), 0)
        self.assertEqual(gap(7, 7), 0)
        self.assertEqual(gap(6, 7), 0)

    def test_formula(self):
        for far in range(60):
            for near in range(60):
                expected = far + near - math.isqrt(4 * far * near) if near < far else 0
                self.assertEqual(gap(far, near), expected, (far, near))

    def test_great_numbers(self):
        k = 10 ** 40
        self.assertEqual(gap((k + 3) ** 2, k * k), 9)

    def test_points_are_at_least_the_gap_apart(self):
        places = range(-6, 7)
        for x in places:
            for y in places:
                # The first point is at x, the second one at 0, the third one at y.
                self.assertLessEqual(gap(x * x, y * y), (x - y) ** 2)


class SplitTest(unittest.TestCase):
    def test_without_rest(self):
        self.assertEqual(split(7, 3, 2), 2)
        self.assertEqual(split(4, 0, 4), 1)
        self.assertEqual(split(10, 0, 25), 1)

    def test_rounded_up(self):
        self.assertEqual(split(8, 3, 2), 4)
        self.assertEqual(split(1, 0, 1), 1)
        self.assertEqual(split(6, 5, 100), 1)
        self.assertEqual(split(10, 1, 10), 3)

    def test_e_is_at_least_d(self):
        self.assertEqual(split(3, 3, 2), 0)
        self.assertEqual(split(3, 7, 2), 0)
        self.assertEqual(split(0, 0, 5), 0)
        self.assertEqual(split(0, 9, 5), 0)

    def test_centres_at_one_place(self):
        self.assertEqual(split(7, 3, 0), 0)
        self.assertEqual(split(3, 3, 0), 0)
        self.assertEqual(split(3, 7, 0), 0)

    def test_formula(self):
        for d in range(25):
            for e in range(25):
                for f in range(8):
                    expected = math.ceil(Fraction((d - e) ** 2, 4 * f)) if e < d and f else 0
                    self.assertEqual(split(d, e, f), expected, (d, e, f))

    def test_great_numbers(self):
        k = 10 ** 40
        self.assertEqual(split(2 * k + 1, 1, k), k)
        self.assertEqual(split(2 * k + 2, 1, k), k + 2)


if __name__ == "__main__":
    unittest.main()
