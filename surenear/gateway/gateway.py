"""The gateway: it keeps deeds on its disk, and believes shards nothing that it cannot check."""

from surenear.costs.question import Question
from surenear.disks.journal import Journal
from surenear.errors import InvalidCode, NoSuchMoment, NoSuchQuery, NotNow, NotPinned, NotUp
from surenear.gateway.catalog import Catalog, news_of
from surenear.gateway.deeds import catalog_code, deed_code, read_catalog, read_deed
from surenear.gateway.messages import is_known
from surenear.gateway.tasks import OpenQuery, Reading

# How many notes may be fresh before puts are refused.
FRESH = 40
# How many segments of a shard may be read at one time.
READINGS = 2
# How many entries a segment may tell.
TOLD = 200
# How many names of a shard may be closed before no more segments of it are read.
CLOSED = 8
# How many entries the journal gets before it is turned.
LOG = 20


class Gateway:
    """Takes writes, answers queries and talks with shards; it may stop at any time."""

    def __init__(self, schema, key, shard):
        self.schema = schema
        self.key = tuple(key)
        self.shard = shard
        self.begin()

    def begin(self):
        """Know nothing but what is on the disk."""
        self.catalog = Catalog(self.schema, self.key, self.shard)
        self.journal = Journal(catalog_code(self.catalog))
        # The deeds that the journal was given, and those that wait.
        self.lot = []
        self.wishes = []
        # The number of this beginning, once the gateway is up.
        self.beginning = 0
        self.hearings = 0
        self.under_reading = []
        self.asked = 0
        # The queries under way, by their numbers.
        self.under_way = {}

    def crash(self):
        """Stop the machine, and begin again."""
        self.begin()

    @property
    def up(self):
        """Whether it has begun."""
        return self.journal.up

    def check_up(self):
        """Raise NotUp if the gateway is not up."""
        if not self.up:
            raise NotUp("the gateway is not up")

    def want(self):
        """Return the operation that the disk is to be asked for, None if there is none."""
        return self.journal.want()

    def told(self, answer):
        """Take the disk's answer; return the outcomes of the lot that is kept by it, or None, and what is said."""
        was_up = self.up
        kept = self.journal.told(answer)
        if self.up and not was_up:
            self.remember()
        # What is kept may also be a turn; then there is no lot.
        if kept == 0 or self.lot == []:
            return (None, [])
        return self.do_lot()

    def remember(self):
        """Make the catalog of what the journal has kept."""
        try:
            self.catalog = read_catalog(self.schema, self.key, self.journal.base)
        except InvalidCode:
            self.catalog = Catalog(self.schema, self.key, self.shard)
        for entry in self.journal.entries:
            self.redo(entry)
        self.beginning = self.catalog.begins + 1
        self.wish(("begin",))

    def redo(self, entry):
        """Do the deed of an entry of the journal; an entry that is none does nothing."""
        try:
            deed = read_deed(entry)
        except InvalidCode:
            return
        self.catalog.apply(deed)

    def do_lot(self):
        """Do the deeds of the lot; return their outcomes, and what is said of them."""
        outcomes = []
        said = []
        for deed in self.lot:
            after = self.catalog.twin()
            outcomes.append(after.apply(deed))
            said.extend(news_of(self.catalog, after, deed))
            self.catalog = after
        self.lot = []
        return (outcomes, said)

    def write(self):
        """Give the journal a lot of all that waits, or a turn if its log is long."""
        if not self.up or self.want() is not None:
            return
        if self.wishes != []:
            moments = [query.moment for query in self.under_way.values()]
            self.lot = self.wishes + [("lift", min([self.catalog.ledger.now] + moments))]
            self.wishes = []
            for deed in self.lot:
                self.journal.add(deed_code(deed))
        elif len(self.journal.entries) >= LOG:
            self.journal.turn(catalog_code(self.catalog))

    def wish(self, deed):
        """Let a deed wait."""
        self.wishes = self.wishes + [deed]

    def ledger_after(self, deeds):
        """Return the ledger as it will be after deeds."""
        catalog = self.catalog.twin()
        for deed in deeds:
            catalog.apply(deed)
        return catalog.ledger

    def put(self, record):
        """Let the writing of a record wait."""
        self.check_up()
        self.schema.check(record)
        if len(self.ledger_after(self.lot + self.wishes).fresh()) >= FRESH:
            raise NotNow("too many notes are fresh")
        self.wish(("put", record))

    def drop(self, name):
        """Let the removal of what a name has wait."""
        self.check_up()
        self.wish(("drop", name))

    def pin(self):
        """Let a pin wait."""
        self.check_up()
        self.wish(("pin",))

    def unpin(self, moment):
        """Let an unpinning wait."""
        self.check_up()
        if moment not in self.ledger_after(self.lot + self.wishes).pins:
            raise NotPinned("the moment will not be pinned")
        if moment in [query.moment for query in self.under_way.values()]:
            raise NotNow("a query is under way at the moment")
        self.wish(("unpin", moment))

    def route(self, low, shard):
        """Let a route wait."""
        self.check_up()
        self.wish(("route", low, shard))

    def has_begun(self):
        """Return whether this beginning is in the catalog."""
        return self.catalog.begins >= self.beginning

    def hear(self, shard, message):
        """Take a message of a shard; return what is said."""
        self.check_up()
        if not is_known(message):
            return []
        kind = message[0]
        if kind == "sealed":
            return self.hear_sealed(shard, message[1], message[2], message[3])
        if kind == "piece":
            return self.hear_piece(shard, message)
        if kind == "gone":
            self.hear_gone(shard, message[1])
            return []
        if kind == "needs":
            return self.hear_needs(shard, message[1])
        if kind == "fetched":
            return self.hear_fetched(message[1])
        for query in self.under_way.values():
            if query.asked == message[1]:
                query.take_parts(self.catalog, shard, message[2])
        return []

    def hear_sealed(self, shard, name, pieces, partitions):
        """Take the news of a segment; return what is said."""
        number = self.catalog.segment_named(shard, name)
        if number is not None:
            return [(shard, ("owner", name, number))]
        if (shard, name) in self.catalog.closed:
            return [(shard, ("release", name))]
        if pieces < 1 or not self.can_read(shard, name):
            return []
        self.hearings += 1
        reading = Reading(shard, name, (self.beginning, self.hearings), pieces, partitions)
        self.under_reading = self.under_reading + [reading]
        return [reading.asking()]

    def can_read(self, shard, name):
        """Return whether a reading of a name of a shard can begin."""
        if not self.has_begun() or self.is_decided(shard, name):
            return False
        names = [reading.name for reading in self.under_reading if reading.shard == shard]
        closed = [pair for pair in self.catalog.closed if pair[0] == shard]
        return name not in names and len(names) < READINGS and len(closed) < CLOSED

    def is_decided(self, shard, name):
        """Return whether a deed that decides on a name of a shard is under way."""
        deeds = [deed for deed in self.lot + self.wishes if deed[0] in ("own", "close", "forget")]
        return (shard, name) in [deed[1:3] for deed in deeds]

    def hear_piece(self, shard, message):
        """Take a piece of a segment, if it is the one that was asked for; return what is said."""
        _, name, hearing, index, entries = message
        for reading in self.readings_of(shard, name):
            if reading.hearing == hearing and reading.next_index == index:
                return self.add_piece(reading, entries)
        return []

    def readings_of(self, shard, name):
        """Return the list of the reading of a name of a shard."""
        return [reading for reading in self.under_reading if reading.is_of(shard, name)]

    def add_piece(self, reading, entries):
        """Add a piece to a reading; return what is said."""
        reading.entries = reading.entries + list(entries)
        self.end_reading(reading.shard, reading.name)
        if len(reading.entries) > TOLD:
            self.wish(("close", reading.shard, reading.name))
            return []
        if reading.next_index + 1 == reading.pieces:
            self.wish(self.verdict(reading))
            return []
        reading.next_index += 1
        # It stands after all others now.
        self.under_reading = self.under_reading + [reading]
        return [reading.asking()]

    def end_reading(self, shard, name):
        """End the reading of a name of a shard, if there is one."""
        self.under_reading = [reading for reading in self.under_reading if not reading.is_of(shard, name)]

    def verdict(self, reading):
        """Return the deed that follows from a whole segment: its owning, or its closing."""
        shard, name, offer, ledger = reading.shard, reading.name, reading.whole_offer(), self.catalog.ledger
        if ledger.would_take(offer):
            leaves = {entry.number: entry.leaves for entry in ledger.matched(offer)}
            homes = [
                (note.number, leaves[note.number]) for note in ledger.notes
                if note.number in leaves and self.catalog.turns(shard, name, note)
            ]
            if homes != []:
                return ("own", shard, name, offer.partitions, tuple(homes))
        return ("close", shard, name)

    def hear_gone(self, shard, name):
        """Take the news that a shard does not have a segment."""
        self.end_reading(shard, name)
        if (shard, name) in self.catalog.closed and not self.is_decided(shard, name):
            self.wish(("forget", shard, name))

    def hear_needs(self, shard, name):
        """Return what is said of what is needed of a segment."""
        number = self.catalog.segment_named(shard, name)
        if number is not None:
            pairs = [(note.number, note.died) for note in self.catalog.ledger.owned_by(number)]
            return [(shard, ("needed", name, tuple(pairs)))]
        if (shard, name) in self.catalog.closed:
            return [(shard, ("release", name))]
        return []

    def hear_fetched(self, pairs):
        """Pass on records that are not where they belong; return what is said."""
        said = []
        for note in self.catalog.ledger.notes:
            shard = self.catalog.shard_of(note.name)
            if note.segment is None or self.catalog.title_of(note.segment)[0] != shard:
                told = [pair for pair in pairs if note.matches(self.key, pair[0], pair[1])]
                said.extend([(shard, ("record", number, record)) for number, record in told[:1]])
        return said

    def ask(self, moment, query, budget):
        """Begin a query; return its number, and what is said."""
        self.check_up()
        question = Question(self.schema, query)
        ledgers = [self.catalog.ledger, self.ledger_after(self.lot), self.ledger_after(self.lot + self.wishes)]
        if not all([ledger.keeps(moment) for ledger in ledgers]):
            raise NoSuchMoment("the moment is not kept, or will not be")
        self.asked += 1
        asked = (self.beginning, self.asked)
        self.under_way[self.asked] = OpenQuery(asked, moment, question)
        if not self.has_begun():
            return (self.asked, [])
        # The keys of a dict stand in the order in which they were added first.
        shards = {shard: True for _, shard, _ in self.catalog.titles}
        return (self.asked, [(shard, ("ask", asked, moment, query, budget)) for shard in shards])

    def finish(self, number):
        """End a query, and return its answer."""
        self.check_up()
        if number not in self.under_way:
            raise NoSuchQuery("no query with this number is under way")
        return self.under_way.pop(number).answer_by(self.catalog.ledger)

    def remind(self):
        """Return what is said again, because it may be lost."""
        self.check_up()
        catalog = self.catalog
        said = [
            (catalog.shard_of(note.name), ("record", note.number, note.record)) for note in catalog.ledger.fresh()
        ]
        for number, shard, name in catalog.titles:
            notes = [note for note in catalog.ledger.owned_by(number) if catalog.shard_of(note.name) != shard]
            if notes != []:
                said.append((shard, ("fetch", name, tuple([note.number for note in notes]))))
        said.extend([reading.asking() for reading in self.under_reading])
        return said + [(shard, ("release", name)) for shard, name in catalog.closed]

    def readings(self):
        """Return what is being read: the shard, the name, the hearing, the next index, and the number of pieces."""
        return [
            (reading.shard, reading.name, reading.hearing, reading.next_index, reading.pieces)
            for reading in self.under_reading
        ]

    def queries(self):
        """Return the queries under way: the number, the moment, and the segments of the parts that were taken."""
        return [(number, query.moment, query.segments_taken()) for number, query in self.under_way.items()]
