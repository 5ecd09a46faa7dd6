"""Answers that the ledger makes of reports."""
