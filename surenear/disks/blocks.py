"""Blocks: numbers with their sum, so that half of a block is recognized."""

from surenear.records.marks import remainder_of

FACTOR = 257


def sum_of(numbers):
    """Return the sum of numbers, by which a block is checked."""
    return remainder_of(numbers, FACTOR)


def block_of(numbers):
    """Return the block of numbers."""
    return [len(numbers), sum_of(numbers)] + list(numbers)


def read_blocks(numbers):
    """Return the numbers of each block, up to the first place where no block begins."""
    blocks = []
    at = 0
    while begins_block(numbers, at):
        end = at + 2 + numbers[at]
        blocks.append(list(numbers[at + 2:end]))
        at = end
    return blocks


def begins_block(numbers, at):
    """Return whether a block begins at a place."""
    if at + 2 > len(numbers):
        return False
    size = numbers[at]
    if size < 0 or at + 2 + size > len(numbers):
        return False
    return numbers[at + 1] == sum_of(numbers[at + 2:at + 2 + size])
