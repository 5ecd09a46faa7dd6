"""Answers, searches and reports."""
