"""Points [75] and [79]: names of files, and pieces of segments."""

import unittest

from surenear.codes.writing import offer_code
from surenear.disks.blocks import block_of
from surenear.records.record import Record
from surenear.regions.offer import Entry, Offer
from surenear.regions.region import Region
from surenear.stores.segments import (
    PIECE, offer_in, piece_at, pieces_of, read_file_name, segment_file, segment_numbers, start_file,
)


def offer(many):
    return Offer([[Region(None, [])]], [Entry(number, Record("a", [0]), [0]) for number in range(1, many + 1)])


class NameTest(unittest.TestCase):
    def test_names(self):
        for name, text in (((1, 0), "segment 1 0"), ((12, 345), "segment 12 345"), ((0, 10), "segment 0 10")):
            self.assertEqual(segment_file(name), text)
            self.assertEqual(read_file_name(text), ("segment", name))
        for start, text in ((1, "start 1"), (20, "start 20"), (0, "start 0")):
            self.assertEqual(start_file(start), text)
            self.assertEqual(read_file_name(text), ("start", start))

    def test_other_names(self):
        for text in ("", "segment", "segment ", "segment 1", "segment 1 2 3", "segment 01 2", "segment 1 02", "segment 1 00", "segment 1  2",
                     "segment 1 2 ", " segment 1 2", "segment -1 2", "segment 1 -2", "segment +1 2", "segment 1 x", "segment1 2",
                     "Segment 1 2", "segments 1 2", "start", "start ", "start 01", "start 00", "start -1", "start 1 2", "start 1 ",
                     "start  1", " start 1", "starts 1", "Start 1", "log 1", "1 2", "start x", "start 1.5", "1", "segment 1 2x"):
            self.assertIsNone(read_file_name(text), text)


class PieceTest(unittest.TestCase):
    def test_the_constant(self):
        self.assertEqual(PIECE, 4)

    def test_numbers_of_pieces(self):
        for many, pieces in ((0, 0), (1, 1), (3, 1), (4, 1), (5, 2), (8, 2), (9, 3), (100, 25)):
            self.assertEqual(pieces_of(offer(many)), pieces)

    def test_pieces(self):
        for many in (0, 1, 3, 4, 5, 8, 9):
            told = offer(many)
            pieces = [piece_at(told, index) for index in range(pieces_of(told))]
            self.assertEqual(tuple(entry for piece in pieces for entry in piece), told.entries)
            self.assertTrue(all(len(piece) == 4 for piece in pieces[:-1]))
            self.assertTrue(all(1 <= len(piece) <= 4 for piece in pieces))
            self.assertTrue(all(type(piece) is tuple for piece in pieces))

    def test_no_such_piece(self):
        for many, index in ((0, 0), (1, 1), (4, 1), (5, 2), (5, -1), (5, -2), (9, -1), (9, 100)):
            self.assertEqual(piece_at(offer(many), index), ())


class FileTest(unittest.TestCase):
    def test_contents(self):
        for many in (0, 1, 5):
            numbers = segment_numbers(offer(many))
            self.assertEqual(numbers, block_of(offer_code(offer(many))))
            self.assertEqual(offer_in(numbers), offer(many))
            self.assertEqual(offer_in(tuple(numbers)), offer(many))

    def test_what_is_no_single_block_of_an_offer(self):
        good = segment_numbers(offer(2))
        code = offer_code(offer(2))
        for numbers in ([], [0, 0], good[:-1], good + [0], good + [0, 0], [0, 0] + good, good + good, good[1:], [good[0], good[1] + 1] + good[2:],
                        code, block_of(code + [0]), block_of(code[:-1]), block_of([1]), block_of([-1, 0])):
            self.assertIsNone(offer_in(numbers))
        for at in range(len(good)):
            self.assertIsNone(offer_in(good[:at] + [good[at] + 1] + good[at + 1:]))


if __name__ == "__main__":
    unittest.main()
