"""Points [1] and [2]: whole worlds with lies, losses and stops; each answer against all records of its moment."""

import random
import unittest

from surenear.building.rules import Blocks, Codes, Lists, Net, SortedBlocks
from surenear.costs.query import Query
from surenear.costs.question import Question
from surenear.errors import NoSuchMoment, NotNow, NotPinned
from surenear.facts.contents import Counts, Names, Range, Values
from surenear.facts.vectors import Box, Cell, Differ, Norms, Part, Parts
from surenear.gateway.catalog import Catalog
from surenear.records.marks import mark_of
from surenear.records.record import Record
from surenear.records.schema import Schema
from surenear.regions.offer import Entry
from surenear.regions.region import Region
from surenear.search.answers import Hit, at_most
from surenear.search.report import ReportPart
from surenear.worlds.world import World

KEY = (123456789, 987654321)
FIELDS = [("i", "integer"), ("t", "text"), ("f", "flag")]
SCHEMAS = (Schema(2, fields=FIELDS), Schema(2, measure="dot", fields=FIELDS), Schema(3, width="bit", measure="bits", fields=FIELDS))
RULES = ([Blocks(3)], [SortedBlocks("i", 2), Net(2)], [Lists(2, rounds=2, cells=1, size=2), Blocks(2)], [Codes(2, centres=2, rounds=1)])
KINDS = ("box", "norms", "names", "words", "fields")
TEXTS = ("every", "i > 1", "has t", 'not t = "b"', "f = true or i in [0, 1]", 'name_of = 1', "not has i and t >= \"b\"")
NAMES = [first + second for first in "abcm" for second in "xyz"]


def record_by(rng, schema, name):
    low, high = (0, 1) if schema.width == "bit" else (-4, 4)
    fields = [("i", rng.randint(0, 3)), ("t", rng.choice("abc")), ("f", rng.random() < 0.5)]
    words = [("u", rng.randint(1, 20)), ("v", rng.randint(1, 3))]
    return Record(name, [rng.randint(low, high) for _ in range(schema.size)],
                  fields=[pair for pair in fields if rng.random() < 0.7], words=[pair for pair in words if rng.random() < 0.5])


def query_by(rng, schema):
    low, high = (0, 1) if schema.width == "bit" else (-4, 4)
    return Query([rng.randint(low, high) for _ in range(schema.size)], near=rng.choice((0, 1, 1, 3)), text=rng.choice(TEXTS[:5] + TEXTS[6:]),
                 words=[("u", rng.randint(0, 3))] if rng.random() < 0.4 else [], most=rng.randint(1, 4))


class History:
    """All writes, from the deeds that were kept alone."""

    def __init__(self):
        self.writes = []

    def apply(self, deed):
        if deed[0] == "put":
            self.writes.append((deed[1].name, deed[1]))
        elif deed[0] == "drop" and self.current(deed[1]):
            self.writes.append((deed[1], None))

    def current(self, name):
        found = [told for written, told in self.writes if written == name]
        return bool(found) and found[-1] is not None

    def existing(self, moment):
        """The numbered records that exist at a moment."""
        there = {}
        for number, (name, told) in enumerate(self.writes[:moment], 1):
            there.pop(name, None)
            if told is not None:
                there[name] = (number, told)
        return list(there.values())


class Chaos:
    """A world to which everything happens, at random but the same each time."""

    def __init__(self, seed, test, *, lies=True, stops=True, losses=True):
        self.rng = random.Random(seed)
        self.test = test
        self.lies, self.stops, self.losses = lies, stops, losses
        self.schema = self.rng.choice(SCHEMAS)
        kinds = [kind for kind in KINDS if self.rng.random() < 0.6]
        self.shards = [7, 8, 9][:self.rng.randint(1, 3)]
        self.world = World(self.schema, KEY, self.shards, self.rng.choice(RULES), kinds=kinds, partition=self.rng.randint(0, 1),
                           walk=self.rng.choice((0, 2)), most=self.rng.choice((3, 7, 100)))
        self.history = History()
        self.outcomes = 0
        self.records = []
        self.queries = []
        self.counts = {"answers": 0, "exact": 0, "with hits": 0, "bounded": 0, "parts": 0, "owned": 0, "owned by liars": 0}

    def run(self, turns):
        actions = [self.put] * 5 + [self.drop, self.pin, self.unpin, self.write, self.remind, self.seal, self.seal, self.merge]
        actions += [self.settle] * 6 + [self.step] * 6 + [self.deliver] * 40 + [self.ask] * 2 + [self.finish]
        actions += [self.route] if self.rng.random() < 0.6 else []
        actions += [self.lose] * 2 if self.losses else []
        actions += [self.lie] * 2 if self.lies else []
        for _ in range(turns):
            self.rng.choice(actions)()
            self.follow()
            if self.stops and self.rng.random() < 0.005:
                self.stop()

    def follow(self):
        """Take note of what was kept, and compare it with the ledger."""
        for deed, outcome in self.world.outcomes[self.outcomes:]:
            before = len(self.history.writes)
            self.history.apply(deed)
            if deed[0] == "own":
                self.counts["owned"] += 1
                self.counts["owned by liars"] += not self.world.is_honest(deed[1])
            if deed[0] in ("put", "drop"):
                written = len(self.history.writes) > before
                self.test.assertEqual(outcome, len(self.history.writes) if written else None)
        self.outcomes = len(self.world.outcomes)
        if self.world.gateway.up:
            self.compare()

    def compare(self):
        ledger = self.world.gateway.catalog.ledger
        self.test.assertEqual(ledger.now, len(self.history.writes))
        told = [(note.number, note.name, note.mark) for note in ledger.live(ledger.now)]
        there = [(number, written.name, mark_of(KEY, number, written)) for number, written in self.history.existing(ledger.now)]
        self.test.assertEqual(told, sorted(there))

    def put(self):
        if self.world.gateway.up:
            told = record_by(self.rng, self.schema, self.rng.choice(NAMES))
            self.records.append(told)
            try:
                self.world.put(told)
            except NotNow:
                self.settle()

    def drop(self):
        if self.world.gateway.up:
            self.world.drop(self.rng.choice(NAMES))

    def pin(self):
        if self.world.gateway.up and self.rng.random() < 0.5:
            self.world.pin()

    def unpin(self):
        pins = self.world.gateway.catalog.ledger.pins
        if self.world.gateway.up and pins:
            try:
                self.world.unpin(self.rng.choice(pins))
            except (NotNow, NotPinned):
                pass

    def route(self):
        if self.world.gateway.up and self.rng.random() < 0.3:
            self.world.route(self.rng.choice(("", "b", "by", "m")), self.rng.choice(self.shards))

    def write(self):
        self.world.write()

    def settle(self):
        self.world.settle()
        self.world.write()
        self.world.settle()

    def step(self):
        refuse = self.rng.random() < 0.1
        if self.rng.random() < 0.5:
            self.world.step_gateway(refuse=refuse)
        else:
            self.world.step_shard(self.rng.choice(self.shards), refuse=refuse)

    def deliver(self):
        inward = self.rng.random() < 0.5
        messages = self.world.inward if inward else self.world.outward
        if messages:
            place = self.rng.randrange(len(messages)) if self.rng.random() < 0.3 else 0
            keep = self.rng.random() < 0.1 and len(messages) < 40
            self.world.deliver(place, inward=inward, keep=keep)

    def lose(self):
        inward = self.rng.random() < 0.5
        messages = self.world.inward if inward else self.world.outward
        if messages:
            self.world.lose(self.rng.randrange(len(messages)), inward=inward)

    def remind(self):
        self.world.remind_gateway()
        self.world.remind_shard(self.rng.choice(self.shards))

    def seal(self):
        self.world.seal(self.rng.choice(self.shards))

    def merge(self):
        shard = self.rng.choice(self.shards)
        held = self.world.stores[shard].status()["held"]
        self.world.merge(shard, self.rng.sample(held, self.rng.randint(0, len(held))))

    def cuts(self, disk):
        return [(name, self.rng.randint(-1, 3), self.rng.randint(0, 600)) for name, _, _ in disk.files() if self.rng.random() < 0.7]

    def stop(self):
        done = self.rng.random() < 0.5
        if self.rng.random() < 0.5:
            shard = self.rng.choice(self.shards)
            self.world.stop_shard(shard, self.cuts(self.world.disks[shard]), done=done)
        else:
            self.stop_gateway(done)

    def stop_gateway(self, done):
        """After a stop some first deeds of the lot may be kept, and nobody was told."""
        was_up, lot = self.world.gateway.up, list(self.world.gateway.lot)
        self.world.stop_gateway(self.cuts(self.world.disk), done=done)
        self.queries = []
        while not self.world.gateway.up:
            self.world.step_gateway()
        now = self.world.gateway.catalog.ledger.now
        for deed in lot if was_up else []:
            if len(self.history.writes) < now:
                self.history.apply(deed)
        self.compare()

    def ask(self):
        if self.world.gateway.up and len(self.queries) < 4:
            ledger = self.world.gateway.catalog.ledger
            moment = self.rng.choice([ledger.now, ledger.now, *ledger.pins, self.rng.randint(ledger.floor, ledger.now)])
            try:
                self.queries.append(self.world.ask(moment, query_by(self.rng, self.schema), self.rng.choice((0, 1, 3, 99))))
            except NoSuchMoment:
                pass

    def finish(self):
        if self.queries and self.world.gateway.up:
            self.counts["parts"] += sum(len(segments) for _, _, segments in self.world.gateway.queries())
            self.world.finish(self.queries.pop(self.rng.randrange(len(self.queries))))
            self.check(*self.world.answers[-1])

    def check(self, query, moment, answer):
        """What point 2 promises."""
        asked = Question(self.schema, query)
        hits = [Hit(told.name, number, asked.cost(told)) for number, told in self.history.existing(moment) if asked.passes(told)]
        hits = sorted(hits, key=lambda hit: (hit.cost, hit.name))
        self.test.assertTrue(all(hit in hits for hit in answer.hits))
        self.test.assertEqual(answer.hits, [hit for hit in hits if hit in answer.hits])
        self.test.assertLessEqual(len(answer.hits), query.most)
        for hit in hits:
            self.test.assertTrue(hit in answer.hits or at_most(answer.bound, hit.cost))
        if answer.exact:
            self.test.assertEqual(answer.hits, hits[:query.most])
        self.counts["answers"] += 1
        self.counts["exact"] += answer.exact
        self.counts["with hits"] += answer.hits != []
        self.counts["bounded"] += answer.bound not in ("none", "unknown")

    def lie(self):
        """Invents a message, or spoils one that is under way; only the last shard lies, if there are several."""
        shard = self.shards[-1]
        own = [message for told, message in self.world.inward if told == shard]
        if own and self.rng.random() < 0.6:
            self.world.lie(shard, self.spoiled(self.rng.choice(own)))
        else:
            self.world.lie(shard, self.invented())

    def name(self):
        return (self.rng.randint(1, 4), self.rng.randint(0, 4))

    def fact(self):
        """Any fact, true or false, of any size and of any field."""
        rng, size = self.rng, self.rng.choice((self.schema.size, self.schema.size, 1, 0, 5))
        a, b = ([rng.randint(-4, 4) for _ in range(size)] for _ in range(2))
        field, lack = rng.choice("itfx"), rng.choice(("nobody", "some", "all"))
        parts = [Part(rng.randint(-1, 2), [rng.randint(-3, 3) for _ in range(rng.randint(0, 2))], rng.randint(0, 40)) for _ in range(rng.randint(0, 3))]
        return rng.choice((
            Parts(parts), Parts([Part(0, a, rng.randint(0, 50))]), Cell(a, b), Cell(a, b[:1]), Box(a, b), Box([-4] * size, [4] * size), Box(a, b[:2]),
            Norms(rng.randint(-1, 5), rng.randint(0, 60)), Differ(a, rng.randint(-1, 4)), Range(field, rng.randint(-1, 2), rng.randint(0, 4), lack=lack),
            Values(field, rng.sample(["a", "b", "c", True, False, 0, 1, 2], rng.randint(0, 6)), lack=lack),
            Counts([("u", rng.randint(-1, 20)), ("v", 3), ("v", 1)][:rng.randint(0, 3)]), Names(rng.choice(("", "a", "b")), rng.choice(("b", "n", "~"))),
        ))

    def regions(self):
        parents = [None, None, 0, 1, 2, 7]
        return tuple(Region(self.rng.choice(parents[:max(2, at + 1)]), [self.fact() for _ in range(self.rng.choice((0, 0, 1, 2)))])
                     for at in range(self.rng.randint(0, 4)))

    def entry(self):
        told = self.rng.choice(self.records) if self.records else record_by(self.rng, self.schema, "ax")
        number = self.rng.randint(1, max(1, len(self.history.writes)))
        if self.history.writes and self.rng.random() < 0.8:
            number = self.rng.randint(1, len(self.history.writes))
            told = self.history.writes[number - 1][1] or told
        return Entry(number, told, [self.rng.randint(0, 1) for _ in range(self.rng.choice((1, 1, 1, 2)))])

    def part(self):
        segments = [segment.number for segment in self.world.gateway.catalog.ledger.segments] + [self.rng.randint(0, 9)]
        entries = [self.entry() for _ in range(self.rng.randint(0, 20))]
        left = [self.rng.randint(-1, 5) for _ in range(self.rng.choice((0, 0, 1, 2)))]
        return ReportPart(self.rng.choice(segments), self.rng.choice((0, 0, 1)), left, [entry.number for entry in entries],
                          [entry.record for entry in entries])

    def invented(self):
        gateway = self.world.gateway
        readings = gateway.readings() if gateway.up else []
        kind = self.rng.choice(("sealed", "piece", "gone", "needs", "fetched", "answer", "answer", "hello"))
        if kind == "sealed":
            return (kind, self.name(), self.rng.randint(-1, 3), tuple(self.regions() for _ in range(self.rng.choice((1, 1, 1, 2)))))
        if kind == "piece":
            entries = tuple(self.entry() for _ in range(self.rng.choice((0, 1, 4, 4, 30))))
            if readings and self.rng.random() < 0.9:
                _, name, hearing, index, _ = self.rng.choice(readings)
                return (kind, name, hearing, index, entries)
            return (kind, self.name(), (1, self.rng.randint(1, 9)), self.rng.randint(0, 2), entries)
        if kind == "fetched":
            return (kind, tuple((entry.number, entry.record) for entry in [self.entry() for _ in range(3)]))
        if kind == "answer":
            asked = (gateway.catalog.begins, self.rng.choice(self.queries + [1, 2, 3]))
            return (kind, asked, [self.part() for _ in range(self.rng.randint(0, 3))])
        return (kind, self.name())

    def spoiled_part(self, part):
        """A part with one thing changed: a record is another one or not told, or a region is not told."""
        pairs, left = list(zip(part.numbers, part.records)), list(part.left)
        word = self.rng.choice(("another", "another", "not told", "left", "nothing"))
        if pairs and word in ("another", "not told"):
            number, told = pairs.pop(self.rng.randrange(len(pairs)))
            if word == "another":
                pairs.append((number, record_by(self.rng, self.schema, told.name)))
        elif left and word == "left":
            left.pop(self.rng.randrange(len(left)))
        return ReportPart(part.segment, part.partition, left, [number for number, _ in pairs], [told for _, told in pairs])

    def spoiled(self, message):
        """A message with one item changed."""
        if message[0] == "answer":
            return ("answer", message[1], [self.spoiled_part(part) for part in message[2]])
        if message[0] == "sealed":
            return message[:3] + ((self.regions(),) + message[3][1:],)
        if message[0] == "piece":
            entries = list(message[4])
            if entries and self.rng.random() < 0.5:
                entries.pop()
            return message[:4] + (tuple(entries + [self.entry()]),)
        return self.invented()

    def calm(self):
        """Nothing is lost, invented or stopped any more: everything is said again until nothing changes."""
        for _ in range(60):
            self.settle()
            self.follow()
            for _ in range(400):
                if self.world.outward:
                    self.world.deliver(0, inward=False)
                elif self.world.inward:
                    self.world.deliver(0, inward=True)
                else:
                    break
                self.settle()
                self.follow()
            self.world.remind_gateway()
            for shard in self.shards:
                self.world.seal(shard)
                self.world.remind_shard(shard)


class ChaosTest(unittest.TestCase):
    def total(self, chaoses):
        return {key: sum(chaos.counts[key] for chaos in chaoses) for key in chaoses[0].counts}

    def test_everything(self):
        chaoses = []
        for seed in range(50):
            chaos = Chaos(seed, self)
            chaos.run(1200)
            chaoses.append(chaos)
        # Enough has happened for the answers to mean something.
        counts = self.total(chaoses)
        self.assertTrue(all(count > 100 for count in counts.values()), counts)

    def test_what_is_calm_in_the_end(self):
        """Without liars all records come to where they belong, and then all answers are exact."""
        for seed in range(15):
            chaos = Chaos(1000 + seed, self, lies=False)
            chaos.run(500)
            chaos.world.settle()
            chaos.follow()
            while chaos.queries:
                chaos.finish()
            chaos.calm()
            catalog = chaos.world.gateway.catalog
            self.assertEqual(catalog.ledger.fresh(), [])
            for note in catalog.ledger.notes:
                self.assertEqual(catalog.title_of(note.segment)[0], catalog.shard_of(note.name))
            self.assertEqual(catalog.closed, [])
            for shard in chaos.shards:
                held = {name for title in catalog.titles if title[1] == shard for name in [title[2]]}
                self.assertEqual(set(chaos.world.stores[shard].status()["held"]), held)
            # A shard may have missed which records ended; a merge tells it.
            for shard in chaos.shards:
                chaos.world.merge(shard, chaos.world.stores[shard].status()["held"])
            chaos.calm()
            for _ in range(5):
                query = query_by(chaos.rng, chaos.schema)
                number = chaos.world.ask(chaos.world.gateway.catalog.ledger.now, query, 999)
                chaos.calm()
                answer = chaos.world.finish(number)
                chaos.check(*chaos.world.answers[-1])
                self.assertTrue(answer.exact)

    def test_without_chaos(self):
        """Whatever is kept can be kept again: the catalog is the same after a stop."""
        for seed in range(5):
            chaos = Chaos(2000 + seed, self, lies=False, stops=False, losses=False)
            chaos.run(400)
            chaos.settle()
            before = chaos.world.gateway.catalog
            self.assertIsInstance(before, Catalog)
            chaos.world.stop_gateway([])
            chaos.world.settle()
            after = chaos.world.gateway.catalog
            for key in ("titles", "closed", "routes", "begins"):
                self.assertEqual(getattr(after, key), getattr(before, key))
            for key in ("now", "floor", "pins", "notes", "segments", "upcoming"):
                self.assertEqual(getattr(after.ledger, key), getattr(before.ledger, key))


if __name__ == "__main__":
    unittest.main()
