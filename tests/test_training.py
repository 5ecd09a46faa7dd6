"""Point [43]: which centre is nearest, and how centres are trained."""

import itertools
import random
import unittest

from surenear.building.training import nearest, train


def line(*numbers):
    """Vectors of one number each."""
    return [(number,) for number in numbers]


class NearestTest(unittest.TestCase):
    def test_nearest(self):
        centres = [(0, 0), (4, 0), (0, 3)]
        for vector, place in (((0, 0), 0), ((3, 0), 1), ((1, 3), 2), ((9, 9), 1), ((-9, 0), 0), ((-1, 9), 2)):
            self.assertEqual(nearest(centres, vector), place)
            self.assertEqual(nearest([list(centre) for centre in centres], list(vector)), place)

    def test_the_first_one_of_several(self):
        self.assertEqual(nearest(line(4, 0), (2,)), 0)
        self.assertEqual(nearest(line(0, 4), (2,)), 0)
        self.assertEqual(nearest(line(9, 3, 3, 1), (2,)), 1)
        self.assertEqual(nearest(line(9, 1, 5, 3), (2,)), 1)
        self.assertEqual(nearest([(), ()], ()), 0)

    def test_one_centre(self):
        self.assertEqual(nearest([(7, 7)], (0, 0)), 0)


class StartTest(unittest.TestCase):
    def test_places(self):
        for many, number, places in (
            (5, 1, [0]), (5, 2, [0, 2]), (5, 3, [0, 1, 3]), (5, 4, [0, 1, 2, 3]), (5, 5, [0, 1, 2, 3, 4]), (6, 4, [0, 1, 3, 4]),
            (7, 3, [0, 2, 4]), (1, 1, [0]), (10, 4, [0, 2, 5, 7]),
        ):
            self.assertEqual(train(line(*range(many)), number, 0), line(*places))

    def test_more_centres_than_vectors(self):
        for number in (3, 4, 100):
            self.assertEqual(train(line(5, 7, 6), number, 0), line(5, 7, 6))
            self.assertEqual(train(line(5, 7, 6), number, 3), line(5, 7, 6))

    def test_no_vectors(self):
        for rounds in (0, 3):
            self.assertEqual(train([], 1, rounds), [])
            self.assertEqual(train([], 5, rounds), [])

    def test_tuples_in_a_new_list(self):
        vectors = [[1, 2], [5, 6]]
        for rounds in (0, 1):
            centres = train(vectors, 2, rounds)
            self.assertIs(type(centres), list)
            self.assertEqual([type(centre) for centre in centres], [tuple, tuple])
            centres.clear()
            self.assertEqual(vectors, [[1, 2], [5, 6]])

    def test_the_order_of_vectors_counts(self):
        self.assertEqual(train(line(9, 1, 5, 3), 2, 0), line(9, 5))


class RoundsTest(unittest.TestCase):
    def test_means(self):
        self.assertEqual(train([(0, 0), (2, 5), (4, 1)], 1, 1), [(2, 2)])
        self.assertEqual(train(line(0, 2, 10, 14), 2, 1), line(1, 12))

    def test_means_are_rounded_down(self):
        self.assertEqual(train(line(0, 3), 1, 1), line(1))
        self.assertEqual(train(line(0, 1), 1, 1), line(0))
        self.assertEqual(train(line(-1, -2), 1, 1), line(-2))
        self.assertEqual(train(line(-1, 0, 0), 1, 1), line(-1))
        self.assertEqual(train([(0, 0), (1, -1), (1, -1)], 1, 1), [(0, -1)])

    def test_each_round(self):
        vectors = line(0, 8, 1, 9)
        told = [line(0, 1), line(0, 6), line(0, 8), line(0, 8), line(0, 8)]
        self.assertEqual([train(vectors, 2, rounds) for rounds in range(5)], told)
        self.assertEqual(train(vectors, 2, 10 ** 6), told[-1])

    def test_by_the_centres_at_the_beginning_of_the_round(self):
        # If the first centre had moved to 2 already, it would have taken the 5.
        self.assertEqual(train(line(0, 3, 6, 5), 2, 1), line(1, 5))

    def test_ties_go_to_the_first_centre(self):
        self.assertEqual(train(line(0, 2, 4, 4), 2, 1), line(1, 4))

    def test_a_centre_without_vectors_stays(self):
        vectors = line(0, 0, 5)
        self.assertEqual([train(vectors, 2, rounds) for rounds in range(4)], [line(0, 0), line(1, 0), line(5, 0), line(5, 0)])

    def test_empty_vectors(self):
        self.assertEqual(train([(), (), ()], 2, 3), [(), ()])

    def test_as_told(self):
        chance = random.Random(3)
        for _ in range(60):
            vectors = [(chance.randint(-9, 9), chance.randint(-9, 9)) for _ in range(chance.randint(1, 12))]
            number, rounds = chance.randint(1, 5), chance.randint(0, 4)
            self.assertEqual(train(vectors, number, rounds), self.trained(vectors, number, rounds))

    def trained(self, vectors, number, rounds):
        """Centres by the words of the point."""
        many = min(number, len(vectors))
        centres = [vectors[i * len(vectors) // many] for i in range(many)]
        for _ in range(rounds):
            groups = {place: [] for place in range(many)}
            for x, y in vectors:
                lengths = [(x - a) ** 2 + (y - b) ** 2 for a, b in centres]
                groups[min(range(many), key=lambda place: (lengths[place], place))].append((x, y))
            centres = [
                tuple(sum(numbers) // len(groups[place]) for numbers in itertools.islice(zip(*groups[place]), 2))
                if groups[place] else centres[place] for place in range(many)
            ]
        return centres


if __name__ == "__main__":
    unittest.main()
