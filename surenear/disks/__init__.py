"""Disks that may lose what was not synced, and what is kept on them."""
