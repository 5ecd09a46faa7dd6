"""Queries, and what records cost."""
