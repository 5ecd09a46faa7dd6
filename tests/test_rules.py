"""Points [41] and [44] to [48]: the layouts that rules make."""

import random
import unittest

from surenear.building.layouts import Layout
from surenear.building.rules import Blocks, Codes, Lists, Net, SortedBlocks
from surenear.errors import InvalidRule, SurenearError
from surenear.records.record import Record
from surenear.records.schema import Schema

SCHEMA = Schema(2, fields=[("i", "integer"), ("t", "text"), ("f", "flag")])
LINE = Schema(1)


def at(*vectors):
    """Records with these vectors."""
    return [Record(f"n{place}", vector) for place, vector in enumerate(vectors)]


def on_line(*numbers):
    return at(*[(number,) for number in numbers])


def with_values(field, *values):
    """Records with these values of a field; None if a record lacks it."""
    return [Record("n", [0, 0], fields=[] if worth is None else [(field, worth)]) for worth in values]


def sketches_of(layout):
    """The parents, centres and cells of all sketches."""
    return [(sketch.parent, sketch.centres, sketch.cells) for sketch in layout.sketches]


def top(*centres):
    """What is told of a top region with centres that start at 0 and without cells."""
    return (None, tuple((0, centre) for centre in centres), ())


class RuleTest(unittest.TestCase):
    def is_layout(self, layout, sketches, leaves):
        self.assertIs(type(layout), Layout)
        self.assertEqual(sketches_of(layout), list(sketches))
        self.assertEqual(layout.leaves, tuple(leaves))


class InvalidRuleTest(unittest.TestCase):
    def refuses(self, rule, *arguments, **more):
        with self.assertRaises(InvalidRule) as caught:
            rule(*arguments, **more)
        self.assertIsInstance(caught.exception, SurenearError)

    def test_less_than_1(self):
        for number in (0, -1, -100):
            self.refuses(Blocks, number)
            self.refuses(SortedBlocks, "i", number)
            self.refuses(Lists, number)
            self.refuses(Lists, 1, size=number)
            self.refuses(Lists, 3, rounds=2, cells=2, size=number)
            self.refuses(Codes, number, centres=1)
            self.refuses(Codes, 1, centres=number)

    def test_less_than_0(self):
        for number in (-1, -100):
            self.refuses(Lists, 1, rounds=number)
            self.refuses(Lists, 1, cells=number)
            self.refuses(Codes, 1, centres=1, rounds=number)
            self.refuses(Net, number)

    def test_least_numbers(self):
        self.assertEqual(Blocks(1).size, 1)
        rule = SortedBlocks("i", 1)
        self.assertEqual((rule.field, rule.size), ("i", 1))
        rule = Lists(1)
        self.assertEqual((rule.centres, rule.rounds, rule.cells, rule.size), (1, 0, 0, 1))
        rule = Codes(1, centres=1)
        self.assertEqual((rule.parts, rule.centres, rule.rounds), (1, 1, 0))
        self.assertEqual(Net(0).layers, 0)

    def test_fields(self):
        self.assertEqual(Blocks(7).size, 7)
        rule = SortedBlocks("x", 4)
        self.assertEqual((rule.field, rule.size), ("x", 4))
        rule = Lists(2, rounds=3, cells=4, size=5)
        self.assertEqual((rule.centres, rule.rounds, rule.cells, rule.size), (2, 3, 4, 5))
        rule = Codes(2, centres=3, rounds=4)
        self.assertEqual((rule.parts, rule.centres, rule.rounds), (2, 3, 4))
        self.assertEqual(Net(5).layers, 5)


class NoRecordsTest(RuleTest):
    def test_no_regions(self):
        for rule in (Blocks(1), Blocks(9), SortedBlocks("i", 2), Lists(1), Lists(5, rounds=2, cells=3, size=4),
                     Codes(1, centres=1), Codes(3, centres=2, rounds=2), Net(0), Net(3)):
            for schema in (SCHEMA, LINE):
                self.is_layout(rule.layout(schema, []), [], [])


class BlocksTest(RuleTest):
    def test_blocks(self):
        records = on_line(5, 1, 3, 2, 4)
        for size, many, leaves in ((1, 5, (0, 1, 2, 3, 4)), (2, 3, (0, 0, 1, 1, 2)), (3, 2, (0, 0, 0, 1, 1)),
                                   (5, 1, (0,) * 5), (9, 1, (0,) * 5)):
            self.is_layout(Blocks(size).layout(LINE, records), [top()] * many, leaves)

    def test_one_record(self):
        self.is_layout(Blocks(1).layout(LINE, on_line(3)), [top()], [0])


class SortedBlocksTest(RuleTest):
    def leaves(self, field, size, *values):
        layout = SortedBlocks(field, size).layout(SCHEMA, with_values(field, *values))
        self.assertEqual(sketches_of(layout), [top()] * -(-len(values) // size))
        return layout.leaves

    def test_integers(self):
        self.assertEqual(self.leaves("i", 1, 10, 9, -1, 0, -20), (4, 3, 1, 2, 0))
        self.assertEqual(self.leaves("i", 2, 10, 9, -1, 0, -20), (2, 1, 0, 1, 0))

    def test_strings(self):
        self.assertEqual(self.leaves("t", 1, "b", "ab", "", "a", "B", "~"), (4, 3, 0, 2, 1, 5))

    def test_flags(self):
        self.assertEqual(self.leaves("f", 1, True, False, True, False), (2, 0, 3, 1))
        self.assertEqual(self.leaves("f", 2, True, False, True, False), (1, 0, 1, 0))

    def test_those_that_lack_the_field_come_last(self):
        self.assertEqual(self.leaves("i", 1, None, 5, None, 10 ** 30, -5), (3, 1, 4, 2, 0))
        self.assertEqual(self.leaves("t", 1, None, "~", ""), (2, 1, 0))
        self.assertEqual(self.leaves("f", 1, None, True, False), (2, 1, 0))
        self.assertEqual(self.leaves("i", 2, None, None, None), (0, 0, 1))
        self.assertEqual(self.leaves("i", 1, 0, None, 0), (0, 2, 1))

    def test_ties_keep_their_order(self):
        self.assertEqual(self.leaves("i", 1, 5, 3, 5, 3, 5), (2, 0, 3, 1, 4))
        self.assertEqual(self.leaves("t", 1, "a", "a", "a"), (0, 1, 2))

    def test_another_field(self):
        records = [Record("n", [0, 0], fields=[("i", 9 - place), ("t", "abc"[place])]) for place in range(3)]
        self.assertEqual(SortedBlocks("t", 1).layout(SCHEMA, records).leaves, (0, 1, 2))
        self.assertEqual(SortedBlocks("i", 1).layout(SCHEMA, records).leaves, (2, 1, 0))
        self.assertEqual(SortedBlocks("f", 1).layout(SCHEMA, records).leaves, (0, 1, 2))

    def test_records_are_not_changed(self):
        records = with_values("i", 3, 1, 2)
        SortedBlocks("i", 2).layout(SCHEMA, records)
        self.assertEqual([record.value("i") for record in records], [3, 1, 2])


class ListsTest(RuleTest):
    def test_centres_and_blocks(self):
        layout = Lists(2, size=2).layout(LINE, on_line(0, 10, 1, 11, 2, 12))
        # The centres are the vectors at the places 0 and 3.
        self.is_layout(layout, [top((0,)), top((11,)), (0, (), ()), (0, (), ()), (1, (), ()), (1, (), ())], [2, 4, 2, 4, 3, 5])

    def test_defaults(self):
        layout = Lists(1).layout(LINE, on_line(4, 5, 6))
        self.is_layout(layout, [top((4,)), (0, (), ()), (0, (), ()), (0, (), ())], [1, 2, 3])

    def test_rounds(self):
        records = on_line(0, 8, 1, 9)
        for rounds, second, leaves in ((0, 1, [2, 3, 3, 3]), (1, 6, [2, 3, 2, 3]), (2, 8, [2, 3, 2, 3]), (9, 8, [2, 3, 2, 3])):
            layout = Lists(2, rounds=rounds, size=9).layout(LINE, records)
            self.is_layout(layout, [top((0,)), top((second,)), (0, (), ()), (1, (), ())], leaves)

    def test_more_centres_than_vectors(self):
        layout = Lists(9, size=3).layout(LINE, on_line(7, 5))
        self.is_layout(layout, [top((7,)), top((5,)), (0, (), ()), (1, (), ())], [2, 3])

    def test_one_record(self):
        layout = Lists(3, rounds=2, cells=2, size=4).layout(LINE, on_line(7))
        self.is_layout(layout, [top((7,)), (0, (), ())], [1])

    def test_a_centre_without_records(self):
        layout = Lists(3, size=2).layout(LINE, on_line(5, 5, 5))
        self.is_layout(layout, [top((5,))] * 3 + [(0, (), ()), (0, (), ())], [3, 3, 4])

    def test_ties_go_to_the_first_centre(self):
        layout = Lists(2, size=9).layout(LINE, on_line(0, 2, 4, 2))
        self.is_layout(layout, [top((0,)), top((4,)), (0, (), ()), (1, (), ())], [2, 2, 3, 2])

    def test_cells(self):
        records = on_line(0, 9, 4, 5)
        told = {
            0: [(), (), (), ()],
            1: [((0, 4),), ((9, 5),), ((4, 5),), ((5, 4),)],
            2: [((0, 4), (0, 5)), ((9, 5), (9, 4)), ((4, 5), (4, 0)), ((5, 4), (5, 9))],
            3: [((0, 4), (0, 5), (0, 9)), ((9, 5), (9, 4), (9, 0)), ((4, 5), (4, 0), (4, 9)), ((5, 4), (5, 9), (5, 0))],
        }
        told[4] = told[100] = told[3]
        for cells, pairs in told.items():
            layout = Lists(4, cells=cells, size=9).layout(LINE, records)
            found = [tuple((near, rival) for (near,), (rival,) in sketch.cells) for sketch in layout.sketches[:4]]
            self.assertEqual(found, pairs)
            self.assertEqual([sketch.cells for sketch in layout.sketches[4:]], [()] * 4)

    def test_the_earlier_one_of_two_at_the_same_distance(self):
        layout = Lists(4, cells=3).layout(LINE, on_line(5, 7, 3, 5))
        found = [[rival for _, (rival,) in sketch.cells] for sketch in layout.sketches[:4]]
        self.assertEqual(found, [[5, 7, 3], [5, 5, 3], [5, 5, 7], [5, 7, 3]])

    def test_cells_of_trained_centres(self):
        layout = Lists(2, rounds=1, cells=1, size=9).layout(LINE, on_line(0, 2, 10, 14))
        self.assertEqual([sketch.cells for sketch in layout.sketches[:2]], [(((1,), (12,)),), (((12,), (1,)),)])


class CodesTest(RuleTest):
    def test_one_part(self):
        layout = Codes(1, centres=2).layout(LINE, on_line(0, 9, 1, 8))
        # The centres are the vectors at the places 0 and 2.
        self.is_layout(layout, [top((0,)), top((1,))], [0, 1, 1, 1])

    def test_rows_in_the_order_in_which_they_first_occur(self):
        schema = Schema(2)
        vectors = ((0, 0), (0, 9), (9, 0), (1, 1), (9, 9), (8, 1), (1, 8))
        layout = Codes(2, centres=7).layout(schema, at(*vectors))
        self.assertEqual([sketch.parent for sketch in layout.sketches], [None] * 7)
        self.assertEqual([sketch.centres for sketch in layout.sketches], [((0, (a,)), (1, (b,))) for a, b in vectors])
        layout = Codes(2, centres=2, rounds=4).layout(schema, at(*vectors))
        parts = [tuple(centre for _, centre in sketch.centres) for sketch in layout.sketches]
        self.assertEqual(parts, [((0,), (0,)), ((0,), (8,)), ((8,), (0,)), ((8,), (8,))])
        self.assertEqual(layout.leaves, (0, 1, 2, 0, 3, 2, 1))

    def test_places_of_parts(self):
        records = at(tuple(range(10, 17)), tuple(range(20, 27)))
        schema = Schema(7)
        for parts, starts in ((1, (0,)), (2, (0, 3)), (3, (0, 2, 4)), (4, (0, 1, 3, 5)), (5, (0, 1, 2, 4, 5)),
                              (7, (0, 1, 2, 3, 4, 5, 6))):
            layout = Codes(parts, centres=2).layout(schema, records)
            for sketch, record in zip(layout.sketches, records, strict=True):
                ends = starts[1:] + (7,)
                self.assertEqual(sketch.centres, tuple((a, record.vector[a:b]) for a, b in zip(starts, ends, strict=True)))
            self.assertEqual(layout.leaves, (0, 1))

    def test_more_parts_than_places(self):
        layout = Codes(5, centres=2, rounds=2).layout(Schema(2), at((1, 2), (3, 4), (1, 4)))
        self.assertEqual([sketch.centres for sketch in layout.sketches], [
            ((0, ()), (0, ()), (0, (a,)), (1, ()), (1, (b,))) for a, b in ((1, 2), (3, 4), (1, 4))
        ])
        self.assertEqual(layout.leaves, (0, 1, 2))

    def test_more_centres_than_vectors(self):
        layout = Codes(1, centres=9).layout(LINE, on_line(5, 3, 5))
        self.is_layout(layout, [top((5,)), top((3,))], [0, 1, 0])

    def test_each_part_is_trained_on_its_own(self):
        records = at((0, 50), (10, 60), (2, 52), (12, 62))
        layout = Codes(2, centres=2, rounds=3).layout(Schema(2), records)
        self.assertEqual([sketch.centres for sketch in layout.sketches],
                         [((0, (1,)), (1, (51,))), ((0, (11,)), (1, (61,)))])
        self.assertEqual(layout.leaves, (0, 1, 0, 1))
        layout = Codes(2, centres=2).layout(Schema(2), records)
        self.assertEqual([sketch.centres for sketch in layout.sketches], [((0, (0,)), (1, (50,))), ((0, (2,)), (1, (52,)))])

    def test_ties(self):
        layout = Codes(1, centres=2).layout(LINE, on_line(2, 3, 4))
        # The centres are 2 and 3.
        self.is_layout(layout, [top((2,)), top((3,))], [0, 1, 1])
        layout = Codes(1, centres=2).layout(LINE, on_line(0, 2, 4, 2))
        self.is_layout(layout, [top((0,)), top((4,))], [0, 0, 1, 0])

    def test_no_cells(self):
        layout = Codes(2, centres=3, rounds=1).layout(Schema(2), at((1, 2), (3, 4), (5, 6)))
        self.assertEqual([sketch.cells for sketch in layout.sketches], [()] * 3)


class NetTest(RuleTest):
    def test_no_layers(self):
        self.is_layout(Net(0).layout(LINE, on_line(4, 9, -3)), [top((4,))], [0, 0, 0])
        self.is_layout(Net(0).layout(LINE, on_line(4)), [top((4,))], [0])

    def test_one_record(self):
        for layers in (1, 2, 5):
            sketches = [top((4,))] + [(place, ((0, (4,)),), ()) for place in range(layers)]
            self.is_layout(Net(layers).layout(LINE, on_line(4)), sketches, [layers])

    def test_radius(self):
        # The radius is 64 and then 16: what is 4 away is taken, what is 5 away is not.
        layout = Net(1).layout(LINE, on_line(0, 8, 4, 5, 1, 4))
        self.is_layout(layout, [top((0,)), (0, ((0, (0,)),), ()), (0, ((0, (8,)),), ())], [1, 2, 1, 2, 1, 1])

    def test_radius_is_rounded_down(self):
        # 25, 6, 1, 0.
        records = on_line(0, 5, 2, 3)
        told = [layout.leaves for layout in [Net(layers).layout(LINE, records) for layers in range(4)]]
        self.assertEqual(told[0], (0, 0, 0, 0))
        self.assertEqual(told[1], (1, 2, 1, 2))
        self.assertEqual(told[2], (3, 4, 5, 6))
        self.assertEqual(told[3], (7, 8, 9, 10))
        # 18, 4: what is 5 away is not taken, and what is 4 away is.
        self.assertEqual(Net(1).layout(Schema(2), at((0, 0), (3, 3), (1, 2), (0, 2))).leaves, (1, 2, 3, 1))
        # 16, 4, 1: both are divided without a rest.
        self.assertEqual(Net(2).layout(LINE, on_line(0, 4, 1, 2)).leaves, (3, 4, 3, 5))

    def test_the_first_point_takes_it(self):
        # With the radius 16: the 4 is as far from the point 0 as from the point 8; the 5 is nearer to 8.
        layout = Net(1).layout(LINE, on_line(0, 8, 6, 4, 5))
        self.assertEqual(layout.leaves, (1, 2, 2, 1, 2))
        layout = Net(1).layout(LINE, on_line(0, -8, 8, 4, 3, -4, -5, 5))
        self.assertEqual(layout.leaves, (1, 2, 3, 1, 1, 1, 2, 3))
        # With the radius 36: the 6 is nearer to the point 7, but near enough to the point 0.
        layout = Net(1).layout(LINE, on_line(0, 7, 6, 12))
        self.assertEqual([sketch.centres for sketch in layout.sketches], [((0, (0,)),), ((0, (0,)),), ((0, (7,)),)])
        self.assertEqual(layout.leaves, (1, 2, 1, 2))

    def test_points_lie_in_the_region_of_the_layer_before(self):
        # 100, 25, 6: the points of a layer that lie in another region do not take a record.
        layout = Net(2).layout(LINE, on_line(0, 10, 5, 6, 7))
        self.is_layout(layout, [
            top((0,)), (0, ((0, (0,)),), ()), (0, ((0, (10,)),), ()),
            (1, ((0, (0,)),), ()), (2, ((0, (10,)),), ()), (1, ((0, (5,)),), ()), (2, ((0, (6,)),), ()),
        ], [3, 4, 5, 6, 6])

    def test_two_numbers(self):
        # 200, 50.
        layout = Net(1).layout(Schema(2), at((0, 0), (10, 10), (5, 5), (5, 6), (1, 1)))
        self.is_layout(layout, [top((0, 0)), (0, ((0, (0, 0)),), ()), (0, ((0, (10, 10)),), ())], [1, 2, 1, 2, 1])

    def test_the_radius_is_the_greatest_distance_from_the_first_record(self):
        # 36 and then 9, though others are farther apart from each other.
        layout = Net(1).layout(LINE, on_line(0, 6, -6, 3, -3, 4))
        self.assertEqual(layout.leaves, (1, 2, 3, 1, 1, 2))

    def test_equal_vectors(self):
        layout = Net(2).layout(LINE, on_line(3, 3, 3))
        self.is_layout(layout, [top((3,)), (0, ((0, (3,)),), ()), (1, ((0, (3,)),), ())], [2, 2, 2])

    def test_as_told(self):
        chance = random.Random(5)
        for _ in range(40):
            numbers = [chance.randint(-50, 50) for _ in range(chance.randint(1, 15))]
            layers = chance.randint(0, 4)
            layout = Net(layers).layout(LINE, on_line(*numbers))
            sketches, leaves = self.net(numbers, layers)
            self.is_layout(layout, [(parent, ((0, (point,)),), ()) for parent, point in sketches], leaves)

    def net(self, numbers, layers):
        """Parents and points of the regions, and the leaves, by the words of the point."""
        sketches = [(None, numbers[0])]
        leaves = [0 for _ in numbers]
        radius = max((number - numbers[0]) ** 2 for number in numbers)
        for _ in range(layers):
            radius, first, new = radius // 4, len(sketches), []
            for number, parent in zip(numbers, leaves, strict=True):
                for place in range(first, len(sketches)):
                    if sketches[place][0] == parent and (sketches[place][1] - number) ** 2 <= radius:
                        new.append(place)
                        break
                else:
                    new.append(len(sketches))
                    sketches.append((parent, number))
            leaves = new
        return sketches, leaves


if __name__ == "__main__":
    unittest.main()
