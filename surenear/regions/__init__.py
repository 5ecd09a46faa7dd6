"""Regions and partitions."""
