"""Filters: their tokens, their conditions and how they are read."""
