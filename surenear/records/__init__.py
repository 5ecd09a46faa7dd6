"""Schemas, records and marks."""
