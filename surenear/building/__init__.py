"""Building partitions: layouts, rules, and the facts of regions."""
