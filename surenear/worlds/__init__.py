"""Worlds: a gateway, shards, their disks, and messages under way."""
