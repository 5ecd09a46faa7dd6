"""Codes: how values are written as numbers, and read."""
