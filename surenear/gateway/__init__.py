"""The gateway: it takes writes, answers queries and talks with shards."""
