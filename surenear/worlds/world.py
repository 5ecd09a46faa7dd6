"""Worlds: everything together, and all that can happen to it."""

from surenear.disks.disk import Disk
from surenear.errors import NotNow
from surenear.gateway.gateway import Gateway
from surenear.search.answers import Answer
from surenear.stores.store import Store

REFUSED = ("refused",)


class World:
    """A gateway with its disk, shards with theirs, and messages under way."""

    def __init__(self, schema, key, shards, rules, *, kinds=(), partition=0, walk=0, most=100):
        self.gateway = Gateway(schema, key, shards[0])
        self.disk = Disk()
        self.stores = {
            shard: Store(schema, rules, kinds=kinds, partition=partition, walk=walk, most=most) for shard in shards
        }
        self.disks = {shard: Disk() for shard in shards}
        # Pairs of a shard and a message: to shards, and from shards.
        self.outward = []
        self.inward = []
        self.liars = []
        # Tuples of a query, a moment and an answer.
        self.answers = []
        # Pairs of a deed and its outcome.
        self.outcomes = []
        # Of the numbers of queries the moment and the query that were asked last.
        self.asked = {}

    def step_gateway(self, *, refuse=False):
        """Let the gateway's disk do what it is asked for; return whether there was an operation."""
        operation = self.gateway.want()
        if operation is None:
            return False
        lot = self.gateway.lot
        outcomes, said = self.gateway.told(REFUSED if refuse else self.disk.ask(operation))
        if outcomes is not None:
            self.outcomes = self.outcomes + list(zip(lot, outcomes))
        self.send(said)
        return True

    def step_shard(self, shard, *, refuse=False):
        """Let the disk of a shard do what it is asked for; return whether there was an operation."""
        operation = self.stores[shard].want()
        if operation is None:
            return False
        self.collect(shard, self.stores[shard].told(REFUSED if refuse else self.disks[shard].ask(operation)))
        return True

    def settle(self):
        """Make steps until neither the gateway nor a shard wants anything."""
        while self.step_gateway():
            pass
        for shard in self.stores:
            while self.step_shard(shard):
                pass

    def send(self, said):
        """Put what the gateway says under way."""
        self.outward = self.outward + said

    def collect(self, shard, messages):
        """Put the messages that a shard says under way."""
        self.inward = self.inward + [(shard, message) for message in messages]

    def stop_gateway(self, cuts, *, done=False):
        """Stop the gateway's machine, perhaps after an operation whose answer is lost."""
        operation = self.gateway.want()
        if done and operation is not None:
            self.disk.ask(operation)
        self.disk.crash(cuts)
        self.gateway.crash()

    def stop_shard(self, shard, cuts, *, done=False):
        """Stop the machine of a shard, perhaps after an operation whose answer is lost."""
        operation = self.stores[shard].want()
        if done and operation is not None:
            self.disks[shard].ask(operation)
        self.disks[shard].crash(cuts)
        self.stores[shard].crash()

    def deliver(self, place, *, inward, keep=False):
        """Let a message under way be heard; it is taken away unless it is kept."""
        shard, message = self.inward[place] if inward else self.outward[place]
        if not keep:
            self.lose(place, inward=inward)
        if inward:
            self.tell_gateway(shard, message)
        elif shard in self.stores:
            self.collect(shard, self.stores[shard].hear(message))

    def tell_gateway(self, shard, message):
        """Let the gateway hear a message, if it is up."""
        if self.gateway.up:
            self.send(self.gateway.hear(shard, message))

    def lose(self, place, *, inward):
        """Take a message under way away."""
        if inward:
            self.inward = [pair for at, pair in enumerate(self.inward) if at != place]
        else:
            self.outward = [pair for at, pair in enumerate(self.outward) if at != place]

    def lie(self, shard, message):
        """Let the gateway hear a message in the name of a shard."""
        if shard not in self.liars:
            self.liars = self.liars + [shard]
        self.tell_gateway(shard, message)

    def is_honest(self, shard):
        """Return whether nothing was heard in the name of a shard that it did not say."""
        return shard not in self.liars

    def put(self, record):
        """Let the writing of a record wait."""
        self.gateway.put(record)

    def drop(self, name):
        """Let the removal of what a name has wait."""
        self.gateway.drop(name)

    def pin(self):
        """Let a pin wait."""
        self.gateway.pin()

    def unpin(self, moment):
        """Let an unpinning wait."""
        self.gateway.unpin(moment)

    def route(self, low, shard):
        """Let a route wait."""
        self.gateway.route(low, shard)

    def write(self):
        """Let the gateway give its journal what waits."""
        self.gateway.write()

    def ask(self, moment, query, budget):
        """Begin a query; return its number."""
        number, said = self.gateway.ask(moment, query, budget)
        self.asked[number] = (moment, query)
        self.send(said)
        return number

    def finish(self, number):
        """End a query, remember its answer, and return it."""
        answer = self.gateway.finish(number)
        moment, query = self.asked[number]
        self.answers = self.answers + [(query, moment, answer)]
        # The caller may change what it gets, but not what is remembered.
        return Answer(answer.hits, answer.bound, answer.exact)

    def remind_gateway(self):
        """Let the gateway say again what may be lost, if it is up."""
        if self.gateway.up:
            self.send(self.gateway.remind())

    def remind_shard(self, shard):
        """Let a shard say again what may be lost."""
        self.collect(shard, self.stores[shard].remind())

    def seal(self, shard):
        """Let a shard make a segment, if it can."""
        try:
            self.stores[shard].seal()
        except NotNow:
            return

    def merge(self, shard, names):
        """Let a shard merge segments, if it can."""
        try:
            messages = self.stores[shard].merge(names)
        except NotNow:
            return
        self.collect(shard, messages)
