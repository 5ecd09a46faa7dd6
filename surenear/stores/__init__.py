"""Stores: what shards run."""
