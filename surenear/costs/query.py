"""Queries."""


class Query:
    """A vector, weights of the distance and of words, a filter, and how many records are asked for."""

    def __init__(self, vector, *, near=1, words=(), text="every", most=1):
        self.vector = tuple(vector)
        self.near = near
        self.words = tuple([tuple(pair) for pair in words])
        self.text = text
        self.most = most

    def __eq__(self, other):
        return (
            isinstance(other, Query)
            and self.vector == other.vector
            and self.near == other.near
            and self.words == other.words
            and self.text == other.text
            and self.most == other.most
        )
