"""Disks: files of numbers, of which only what was synced is there for sure."""

from surenear.errors import InvalidOperation

# The operations, and the kind of the answer of each that is not refused.
ANSWERS = {
    "append": "done", "make": "done", "remove": "done", "sync": "done", "read": "numbers", "names": "names",
}


class Disk:
    """Files by their names; of each the states since the last sync."""

    def __init__(self):
        # Of each name that a file ever had: a list of states, each a list of numbers,
        # or None while there is no such file. The first one is there for sure, the last
        # one is seen. A dict keeps the order in which the names came.
        self.histories = {}

    def ask(self, operation):
        """Do an operation, and return the answer."""
        word = operation[0]
        if word not in ANSWERS:
            raise InvalidOperation("no disk knows this operation")
        if word == "sync":
            self.histories = {name: states[-1:] for name, states in self.histories.items()}
            return ("done",)
        if word == "names":
            return ("names", [name for name in self.histories if self.seen(name) is not None])
        if word == "make":
            return self.make(operation[1], operation[2])
        name = operation[1]
        if self.seen(name) is None:
            return ("refused",)
        if word == "read":
            return ("numbers", list(self.seen(name)))
        self.histories[name].append(None if word == "remove" else self.seen(name) + list(operation[2]))
        return ("done",)

    def seen(self, name):
        """Return what is seen of a file, None if there is no such file."""
        return self.histories[name][-1] if name in self.histories else None

    def make(self, name, numbers):
        """Make a file, and return the answer."""
        if self.seen(name) is not None:
            return ("refused",)
        self.histories.setdefault(name, [None]).append(list(numbers))
        return ("done",)

    def crash(self, cuts):
        """Leave one state of each file, perhaps only its first numbers."""
        chosen = {}
        for name, state, size in cuts:
            # Of several cuts of a file the first one counts.
            chosen.setdefault(name, (state, size))
        self.histories = {
            name: states_after(states, chosen[name] if name in chosen else None)
            for name, states in self.histories.items()
        }

    def files(self):
        """Return of each file that exists or is there for sure its name, what is sure, and what is seen."""
        told = [(name, states[0], states[-1]) for name, states in self.histories.items()]
        return [
            (name, copy_of(sure), copy_of(seen)) for name, sure, seen in told if sure is not None or seen is not None
        ]


def is_done(operation, answer):
    """Return whether an answer has the kind that the operation has; another one counts as refused."""
    return answer[0] == ANSWERS[operation[0]]


def copy_of(state):
    """Return a state that the caller may change."""
    return None if state is None else list(state)


def states_after(states, cut):
    """Return the states of a file after a crash: what is sure, and what is left if that differs."""
    left = left_of(states, cut)
    return [states[0]] if left == states[0] else [states[0], left]


def left_of(states, cut):
    """Return what a crash leaves of a file, by a cut (a state and a size), or None."""
    if cut is None or not 0 <= cut[0] < len(states):
        return states[-1]
    number, size = cut
    state = states[number]
    # What is sure is never cut.
    if number == 0 or state is None:
        return state
    before = states[number - 1]
    kept = len(before) if before is not None and state[:len(before)] == before else 0
    # A slice ends with the list, however great its end is.
    return state[:max(size, kept)]
