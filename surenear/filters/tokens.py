"""The tokens of filters."""

from surenear.basics.letters import is_digit, is_letter
from surenear.errors import InvalidFilter

# The longer ones first: a token is as long as possible.
SIGNS = ("!=", "<=", ">=", "(", ")", "[", "]", ",", "=", "<", ">")


class Token:
    """A word, an integer, a text or a sign, and the place at which it begins."""

    def __init__(self, kind, value, place):
        self.kind = kind
        self.value = value
        self.place = place

    def __eq__(self, other):
        return (
            isinstance(other, Token)
            and self.kind == other.kind
            and self.value == other.value
            and self.place == other.place
        )


def read_tokens(text):
    """Return the list of the tokens of a text."""
    tokens = []
    at = 0
    while at < len(text):
        if text[at] == " ":
            at += 1
        else:
            token, at = token_at(text, at)
            tokens.append(token)
    return tokens


def token_at(text, start):
    """Return the token that begins at a place, and the place behind it."""
    char = text[start]
    if is_letter(char):
        return word_at(text, start)
    if is_digit(char) or char == "-" and is_digit(text[start + 1:start + 2]):
        return integer_at(text, start)
    if char == '"':
        return text_at(text, start)
    for sign in SIGNS:
        if text.startswith(sign, start):
            return Token("sign", sign, start), start + len(sign)
    raise InvalidFilter("no token", start)


def word_at(text, start):
    """Return the word at a place, and the place behind it."""
    end = start
    while end < len(text) and (is_letter(text[end]) or is_digit(text[end])):
        end += 1
    return Token("word", text[start:end], start), end


def integer_at(text, start):
    """Return the integer at a place, and the place behind it."""
    first = start + 1 if text[start] == "-" else start
    end = first
    while end < len(text) and is_digit(text[end]):
        end += 1
    # Behind a 0 in front there is nothing, and before it there is no minus sign.
    if text[first] == "0" and end - start > 1:
        raise InvalidFilter("no integer", start)
    return Token("integer", int(text[start:end]), start), end


def text_at(text, start):
    """Return the text between quotation marks at a place, and the place behind it."""
    chars = []
    at = start + 1
    while at < len(text) and text[at] != '"':
        if text[at] == "\\":
            at += 1
            if text[at:at + 1] not in ('"', "\\"):
                raise InvalidFilter("open text", start)
        chars.append(text[at])
        at += 1
    if at == len(text):
        raise InvalidFilter("open text", start)
    return Token("text", "".join(chars), start), at + 1
