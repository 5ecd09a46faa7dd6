"""Segments of stores: their files, and their pieces."""

from surenear.basics.letters import number_in
from surenear.codes.reading import read_offer
from surenear.codes.writing import offer_code
from surenear.disks.blocks import block_of, read_blocks
from surenear.errors import InvalidCode

# How many entries a piece has.
PIECE = 4


def segment_file(name):
    """Return the name of the file of a segment with a name."""
    start, number = name
    return f"segment {start} {number}"


def start_file(start):
    """Return the name of the file that says that a start was used."""
    return f"start {start}"


def read_file_name(text):
    """Return what the name of a file tells, None if it tells nothing."""
    # Only blanks part the words, so each of them is split off by itself.
    words = text.split(" ")
    numbers = [number_in(word) for word in words[1:]]
    if None in numbers:
        return None
    if words[0] == "segment" and len(numbers) == 2:
        return ("segment", (numbers[0], numbers[1]))
    if words[0] == "start" and len(numbers) == 1:
        return ("start", numbers[0])
    return None


def pieces_of(offer):
    """Return the number of pieces of a segment."""
    return (len(offer.entries) + PIECE - 1) // PIECE


def piece_at(offer, index):
    """Return the entries of a piece, none if there is no such piece."""
    if index < 0:
        return ()
    return offer.entries[index * PIECE:(index + 1) * PIECE]


def segment_numbers(offer):
    """Return the numbers that the file of a segment contains."""
    return block_of(offer_code(offer))


def offer_in(numbers):
    """Return the offer that the file of a segment contains, None if it contains no single block of one."""
    blocks = read_blocks(numbers)
    if len(blocks) != 1 or block_of(blocks[0]) != list(numbers):
        return None
    try:
        return read_offer(blocks[0])
    except InvalidCode:
        return None
