"""Surenear: nearest records from shards that need not be trusted."""
