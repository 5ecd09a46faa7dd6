"""Points [41] and [44]: sketches, layouts and blocks."""

import itertools
import unittest

from surenear.building.layouts import Layout, Sketch, block_layout


class SketchTest(unittest.TestCase):
    def test_fields(self):
        sketch = Sketch(3, centres=[[1, [2, 3]], (0, (4,))], cells=[[[1, 2], [3, 4]], ((5, 6), (7, 8))])
        self.assertEqual(sketch.parent, 3)
        self.assertEqual(sketch.centres, ((1, (2, 3)), (0, (4,))))
        self.assertEqual(sketch.cells, (((1, 2), (3, 4)), ((5, 6), (7, 8))))

    def test_defaults(self):
        sketch = Sketch(None)
        self.assertIsNone(sketch.parent)
        self.assertEqual((sketch.centres, sketch.cells), ((), ()))

    def test_keywords_alone(self):
        with self.assertRaises(TypeError):
            Sketch(None, ())

    def test_arguments_are_copied(self):
        centre, near = [1, 2], [3, 4]
        centres, cells = [(0, centre)], [(near, near)]
        sketch = Sketch(None, centres=centres, cells=cells)
        centre.append(9)
        near.append(9)
        centres.append((0, centre))
        cells.append((near, near))
        self.assertEqual((sketch.centres, sketch.cells), (((0, (1, 2)),), (((3, 4), (3, 4)),)))


class LayoutTest(unittest.TestCase):
    def test_fields(self):
        sketches, leaves = [Sketch(None), Sketch(0)], [1, 0, 1]
        layout = Layout(sketches, leaves)
        self.assertEqual([sketch.parent for sketch in layout.sketches], [None, 0])
        self.assertEqual(layout.leaves, (1, 0, 1))
        self.assertEqual((type(layout.sketches), type(layout.leaves)), (tuple, tuple))
        sketches.clear()
        leaves.append(5)
        self.assertEqual((len(layout.sketches), layout.leaves), (2, (1, 0, 1)))


class BlockLayoutTest(unittest.TestCase):
    def told(self, order, size):
        layout = block_layout(order, size)
        for sketch in layout.sketches:
            self.assertEqual((sketch.parent, sketch.centres, sketch.cells), (None, (), ()))
        return len(layout.sketches), layout.leaves

    def test_in_order(self):
        for many, size, told in (
            (6, 1, (6, (0, 1, 2, 3, 4, 5))), (6, 2, (3, (0, 0, 1, 1, 2, 2))), (6, 3, (2, (0, 0, 0, 1, 1, 1))),
            (6, 4, (2, (0, 0, 0, 0, 1, 1))), (6, 5, (2, (0, 0, 0, 0, 0, 1))), (6, 6, (1, (0,) * 6)), (6, 7, (1, (0,) * 6)),
            (1, 1, (1, (0,))), (1, 100, (1, (0,))), (0, 1, (0, ())), (0, 5, (0, ())),
        ):
            self.assertEqual(self.told(list(range(many)), size), told)

    def test_in_another_order(self):
        self.assertEqual(self.told([4, 1, 0, 3, 2], 2), (3, (1, 0, 2, 1, 0)))
        self.assertEqual(self.told([2, 0, 1], 1), (3, (1, 2, 0)))
        for order in itertools.permutations(range(5)):
            for size in range(1, 7):
                many, leaves = self.told(list(order), size)
                self.assertEqual(many, -(-5 // size))
                self.assertEqual([leaves[place] for place in order], [turn // size for turn in range(5)])

    def test_order_is_not_changed(self):
        order = [2, 0, 1]
        block_layout(order, 2)
        self.assertEqual(order, [2, 0, 1])


if __name__ == "__main__":
    unittest.main()
