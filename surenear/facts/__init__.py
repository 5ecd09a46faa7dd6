"""Facts about records, and what they tell."""
