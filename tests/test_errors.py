"""Point [5], and the errors of the interface."""

import unittest

from surenear import errors

NAMES = (
    "InvalidSchema", "InvalidRecord", "InvalidKey", "InvalidFilter", "InvalidQuery", "InvalidRule",
    "InvalidCode", "InvalidOperation", "InvalidSource", "NoSuchMoment", "NotPinned", "NoSuchQuery",
    "NotNow", "NotUp",
)


class ErrorsTest(unittest.TestCase):
    def test_base_class(self):
        self.assertEqual(errors.SurenearError.__bases__, (ValueError,))
        self.assertEqual(errors.SurenearError.__module__, "surenear.errors")

    def test_each_error_has_the_base_class_directly(self):
        for name in NAMES:
            with self.subTest(name):
                error = getattr(errors, name)
                self.assertEqual(error.__bases__, (errors.SurenearError,))
                self.assertEqual(error.__module__, "surenear.errors")

    def test_errors_are_different(self):
        self.assertEqual(len({getattr(errors, name) for name in NAMES}), len(NAMES))

    def test_errors_can_be_raised_with_a_message(self):
        for name in NAMES:
            if name != "InvalidFilter":
                with self.subTest(name), self.assertRaises(errors.SurenearError):
                    raise getattr(errors, name)("what is wrong")

    def test_invalid_filter_has_fault_and_place(self):
        error = errors.InvalidFilter("no token", 3)
        self.assertEqual((error.fault, error.place), ("no token", 3))
        error = errors.InvalidFilter(place=0, fault="no end")
        self.assertEqual((error.fault, error.place), ("no end", 0))


if __name__ == "__main__":
    unittest.main()
