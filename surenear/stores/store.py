"""Stores: records in memory, segments on a disk, and what is said of them."""

from surenear.building.build import build_offer
from surenear.costs.question import Question
from surenear.disks.blocks import block_of
from surenear.disks.disk import is_done
from surenear.errors import InvalidFilter, InvalidQuery, NotNow
from surenear.search.search import Search
from surenear.stores.held import Held
from surenear.stores.segments import offer_in, piece_at, read_file_name, segment_file, segment_numbers, start_file


class Store:
    """What a shard runs; it asks its disk for one operation after the other."""

    def __init__(self, schema, rules, *, kinds=(), partition=0, walk=0, most=100):
        self.schema = schema
        self.rules = tuple(rules)
        self.kinds = tuple(kinds)
        self.partition_place = partition
        self.walk = walk
        self.most = most
        self.begin()

    def begin(self):
        """Know nothing but what is on the disk."""
        self.stage = "list"
        self.start = 0
        # How many segments were made since it began.
        self.made = 0
        # The names of the segments whose files are to be read.
        self.unread = []
        # The numbered records that wait, in order.
        self.memory = []
        # Of the numbers of writes those of the writes that ended them.
        self.deaths = {}
        self.held = []
        self.making = None
        # The names of the files that are to be removed, and of the segments whose files are gone, but not for sure.
        self.removing = []
        self.removed = []
        self.merging = []
        # Of the names of the merge the numbers that are needed, as far as they are known.
        self.needed = {}

    def crash(self):
        """Stop the machine, and begin again."""
        self.begin()

    @property
    def ready(self):
        """Whether it has begun."""
        return self.stage in ("up", "made", "swept")

    def want(self):
        """Return the operation that the disk is to be asked for, None if there is none."""
        if self.stage == "list":
            return ("names",)
        if self.stage == "read":
            return ("read", segment_file(self.unread[0]))
        if self.stage == "start":
            return ("make", start_file(self.start), block_of([]))
        if self.stage in ("settle", "made", "swept"):
            return ("sync",)
        if self.making is not None:
            return ("make", segment_file(self.making.name), segment_numbers(self.making.offer))
        if self.removing != []:
            return ("remove", self.removing[0])
        return None

    def told(self, answer):
        """Take the disk's answer to the operation; return the messages that are said."""
        operation = self.want()
        if operation is None or not is_done(operation, answer):
            return []
        if self.stage == "settle":
            self.stage = "up"
            return [held.sealed() for held in self.held[:1]]
        if self.stage == "made":
            return self.hold_made()
        if self.stage == "swept":
            return self.tell_gone()
        if self.stage == "list":
            self.listed(answer[1])
        elif self.stage == "read":
            self.read(answer[1])
        elif self.stage == "start":
            self.stage = "settle"
        elif self.making is not None:
            self.stage = "made"
        else:
            self.remove_first()
        return []

    def listed(self, names):
        """Take the names of all files."""
        known = [pair for pair in [read_file_name(name) for name in names] if pair is not None]
        self.unread = [name for kind, name in known if kind == "segment"]
        starts = [start for kind, start in known if kind == "start"]
        self.start = max(starts + [start for start, _ in self.unread], default=0) + 1
        self.removing = self.removing + [start_file(start) for start in starts]
        self.stage = "read" if self.unread != [] else "start"

    def read(self, numbers):
        """Take the contents of the file of the first segment that was not read yet."""
        name = self.unread[0]
        offer = offer_in(numbers)
        if offer is None:
            self.removing = self.removing + [segment_file(name)]
        else:
            held = Held(name, offer)
            self.held = self.held + [held]
            self.memory = [(number, record) for number, record in self.memory if not held.has(number)]
        self.unread = self.unread[1:]
        if self.unread == []:
            self.stage = "start"

    def hold_made(self):
        """Hold the segment whose file is there for sure now; return the messages that are said."""
        held = self.making
        self.held = self.held + [held]
        self.making = None
        self.stage = "up"
        self.finish_merge()
        return [held.sealed()]

    def remove_first(self):
        """Take note that the first one of the files is removed."""
        kind, what = read_file_name(self.removing[0])
        if kind == "segment":
            self.removed = self.removed + [what]
        self.removing = self.removing[1:]
        if self.removing == []:
            self.stage = "swept"

    def tell_gone(self):
        """Take note that the removed files are gone for sure; return the messages that are said."""
        said = [("gone", name) for name in self.removed]
        self.removed = []
        self.stage = "up"
        self.finish_merge()
        return said

    def is_free(self):
        """Return whether a segment can be made now."""
        return self.stage == "up" and self.making is None and self.removing == []

    def seal(self):
        """Make a segment of the first records in memory."""
        if not self.is_free() or self.memory == []:
            raise NotNow("no segment can be made now")
        pairs = self.memory[:self.most]
        self.memory = self.memory[self.most:]
        self.make(pairs)

    def make(self, pairs):
        """Begin to make a segment of numbered records."""
        offer = build_offer(self.schema, self.rules, self.kinds, pairs)
        self.making = Held((self.start, self.made), offer)
        self.made += 1

    def merge(self, names):
        """Begin to merge segments that are held; return the messages that are said."""
        wanted = [tuple(name) for name in names]
        if not self.ready or self.merging != [] or wanted == [] or len(set(wanted)) < len(wanted):
            raise NotNow("no merge can begin now")
        if any([self.held_named(name) is None for name in wanted]):
            raise NotNow("no segment with this name is held")
        self.merging = wanted
        return [("needs", name) for name in wanted]

    def finish_merge(self):
        """Make the segment of the merge, if all is known that it needs, and if it is possible now."""
        if self.merging == [] or len(self.needed) < len(self.merging) or not self.is_free():
            return
        records = {}
        for name in self.merging:
            for number, record in self.held_named(name).pairs_of(self.needed[name]):
                records.setdefault(number, record)
        self.end_merge()
        if records != {}:
            self.memory = [(number, record) for number, record in self.memory if number not in records]
            self.make(list(records.items()))

    def end_merge(self):
        """Let the merge be over."""
        self.merging = []
        self.needed = {}

    def held_named(self, name):
        """Return the segment with a name that is held, None if there is none."""
        for held in self.held:
            if held.name == name:
                return held
        return None

    def hear(self, message):
        """Take a message of the gateway; return the messages that are said."""
        kind = message[0]
        if kind == "record":
            self.take_record(message[1], message[2])
        elif kind == "dead":
            self.take_death(message[1], message[2])
        elif kind == "owner":
            self.take_owner(message[1], message[2])
        elif kind == "needed":
            self.take_needed(message[1], message[2])
        elif kind == "release":
            return self.release(message[1])
        elif self.ready and kind == "read":
            return self.tell_piece(message[1], message[2], message[3])
        elif self.ready and kind == "fetch":
            return self.tell_records(message[1], message[2])
        elif self.ready and kind == "ask":
            return [("answer", message[1], self.report(message[2], message[3], message[4]))]
        return []

    def take_record(self, number, record):
        """Take a record, unless it waits already, or is in a segment that may be lost again."""
        waiting = [known for known, _ in self.memory]
        unowned = [held for held in self.held if held.owner is None] + self.in_making()
        if number not in waiting and not any([held.has(number) for held in unowned]):
            self.memory = self.memory + [(number, record)]

    def in_making(self):
        """Return the list of the segment that is being made."""
        return [] if self.making is None else [self.making]

    def has(self, number):
        """Return whether it has a record with a number anywhere."""
        if number in [known for known, _ in self.memory]:
            return True
        return any([held.has(number) for held in self.held + self.in_making()])

    def take_death(self, number, by):
        """Note the write that ended a write whose record is here; the first one told counts."""
        if self.has(number):
            self.deaths.setdefault(number, by)

    def take_owner(self, name, segment):
        """Note under which number the gateway keeps a segment."""
        held = self.held_named(name)
        if held is not None:
            held.owner = segment

    def take_needed(self, name, pairs):
        """Note which records of a segment the merge needs."""
        if name not in self.merging:
            return
        self.needed[name] = [number for number, _ in pairs]
        for number, by in pairs:
            if by is not None:
                self.take_death(number, by)
        self.finish_merge()

    def release(self, name):
        """Hold a segment no longer; return the messages that are said."""
        if self.held_named(name) is None:
            return self.tell_missing(name) if self.ready else []
        self.held = [held for held in self.held if held.name != name]
        self.removing = self.removing + [segment_file(name)]
        if name in self.merging:
            self.end_merge()
        self.deaths = {number: by for number, by in self.deaths.items() if self.has(number)}
        return []

    def tell_missing(self, name):
        """Return what is said of a segment that is not held: that it is gone, if that is sure."""
        if name in [held.name for held in self.in_making()] + self.removed or segment_file(name) in self.removing:
            return []
        return [("gone", name)]

    def tell_piece(self, name, hearing, index):
        """Return the messages that answer a reading."""
        held = self.held_named(name)
        if held is None:
            return self.tell_missing(name)
        return [("piece", name, hearing, index, piece_at(held.offer, index))]

    def tell_records(self, name, numbers):
        """Return the messages that answer a fetch."""
        held = self.held_named(name)
        if held is None:
            return self.tell_missing(name)
        return [("fetched", held.pairs_of(numbers))]

    def report(self, moment, query, budget):
        """Return the report of a search of all segments that the gateway keeps."""
        try:
            question = Question(self.schema, query)
        except (InvalidQuery, InvalidFilter):
            return []
        owned = [held for held in self.held if held.owner is not None]
        sources = [held.source_at(self.partition_place, moment, self.deaths) for held in owned]
        search = Search(question, sources, walk=self.walk)
        search.run(budget)
        return search.report()

    def remind(self):
        """Return the messages that are said again, because they may be lost."""
        if not self.ready:
            return []
        unowned = [held for held in self.held if held.owner is None]
        unknown = [name for name in self.merging if name not in self.needed]
        return [held.sealed() for held in unowned[:1]] + [("needs", name) for name in unknown]

    def status(self):
        """Return a dict that tells what it is doing."""
        return {
            "stage": self.stage,
            "start": self.start,
            "memory": [number for number, _ in self.memory],
            "held": [held.name for held in self.held],
            "owners": [(held.name, held.owner) for held in self.held if held.owner is not None],
            "making": None if self.making is None else self.making.name,
            "removing": list(self.removing),
            "merging": list(self.merging),
        }
