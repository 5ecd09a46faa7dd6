"""Numbers, orders, letters and values: what all other parts rest on."""
