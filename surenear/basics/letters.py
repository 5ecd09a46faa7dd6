"""Letters, digits, words and numbers, as filters, field names and names of files know them."""


def is_letter(char):
    """Return whether a character is a letter or the underscore."""
    return "a" <= char <= "z" or "A" <= char <= "Z" or char == "_"


def is_digit(char):
    """Return whether a character is a digit; the empty string is none."""
    return "0" <= char <= "9"


def is_word(text):
    """Return whether a text is a letter and then letters and digits."""
    if text == "" or not is_letter(text[0]):
        return False
    return all([is_letter(char) or is_digit(char) for char in text])


def number_in(text):
    """Return the number that decimal digits without a leading zero tell, None if a text is anything else."""
    if text == "" or not all([is_digit(char) for char in text]):
        return None
    if text[0] == "0" and len(text) > 1:
        return None
    return int(text)
