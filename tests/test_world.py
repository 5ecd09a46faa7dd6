"""Points [99] to [102]: what a world can do, one thing after the other."""

import unittest

from surenear.building.rules import Blocks, SortedBlocks
from surenear.costs.query import Query
from surenear.disks.disk import Disk
from surenear.errors import InvalidKey, InvalidRecord, NoSuchMoment, NoSuchQuery, NotNow, NotPinned, NotUp
from surenear.gateway.gateway import FRESH, Gateway
from surenear.records.record import Record
from surenear.records.schema import Schema
from surenear.search.answers import Answer, Hit
from surenear.stores.store import Store
from surenear.worlds.world import World

SCHEMA = Schema(1, fields=[("i", "integer")])
KEY = (17, 4242)


def record(name, place=0):
    return Record(name, [place])


def world_of(*shards, settled=True, **more):
    world = World(SCHEMA, KEY, shards or (7,), [Blocks(2), SortedBlocks("i", 3)], kinds=["box"], **more)
    if settled:
        world.settle()
        world.write()
        world.settle()
        world.outcomes = []
    return world


def keep(world):
    world.write()
    world.settle()


def deliver_all(world):
    while world.outward or world.inward:
        while world.outward:
            world.deliver(0, inward=False)
        while world.inward:
            world.deliver(0, inward=True)
        keep(world)


def segment(world, *names, shard=7):
    """Puts records, and lets the shard make a segment of them, which the gateway owns in the end."""
    for name in names:
        world.put(record(name))
    keep(world)
    deliver_all(world)
    world.seal(shard)
    world.settle()
    deliver_all(world)


class BeginTest(unittest.TestCase):
    def test_fields(self):
        shards = [9, 7]
        world = World(SCHEMA, KEY, shards, [Blocks(2)])
        shards.append(5)
        self.assertIsInstance(world.gateway, Gateway)
        self.assertIsInstance(world.disk, Disk)
        self.assertEqual((list(world.stores), list(world.disks)), ([9, 7], [9, 7]))
        self.assertTrue(all(isinstance(store, Store) for store in world.stores.values()))
        self.assertEqual((world.outward, world.inward, world.liars, world.answers, world.outcomes), ([], [], [], [], []))
        self.assertEqual(world.disk.files() + world.disks[9].files() + world.disks[7].files(), [])
        # The first shard of the gateway is the first one.
        self.assertEqual(world.gateway.catalog.routes, [("", 9)])
        self.assertFalse(world.gateway.up or world.stores[9].ready)

    def test_keys(self):
        with self.assertRaises(InvalidKey):
            World(SCHEMA, (0, -1), [7], [Blocks(2)])

    def test_parameters_of_the_stores(self):
        world = world_of(7, partition=1, walk=3, most=2)
        segment(world, "a", "b", "c")
        self.assertEqual(world.stores[7].status()["memory"], [3])
        # Two rules, so two partitions; the kind is box.
        partitions = world.gateway.catalog.ledger.segments[0].partitions
        self.assertEqual([len(regions) for regions in partitions], [1, 1])
        self.assertEqual(len(partitions[0][0].facts), 1)
        world.ask(3, Query([0]), 0)
        world.deliver(0, inward=False)
        self.assertEqual(world.inward[0][1][2][0].partition, 1)
        plain = World(SCHEMA, KEY, [7], [Blocks(2)])
        self.assertEqual([getattr(plain.stores[7], name) for name in ("kinds", "partition_place", "walk", "most")], [(), 0, 0, 100])


class StepTest(unittest.TestCase):
    def test_steps_of_the_gateway(self):
        world = world_of(7, settled=False)
        words = []
        while world.gateway.want() is not None:
            words.append(world.gateway.want()[0])
            self.assertIs(world.step_gateway(), True)
        self.assertEqual(words, ["names", "sync", "make", "sync"])
        self.assertIs(world.step_gateway(), False)
        self.assertEqual([name for name, _, _ in world.disk.files()], ["log 1"])
        # The shard has not made a step.
        self.assertEqual(world.stores[7].want(), ("names",))

    def test_steps_of_a_shard(self):
        world = world_of(7, 8, settled=False)
        words = []
        while world.stores[8].want() is not None:
            words.append(world.stores[8].want()[0])
            self.assertIs(world.step_shard(8), True)
        self.assertEqual(words, ["names", "make", "sync"])
        self.assertIs(world.step_shard(8), False)
        self.assertEqual(([name for name, _, _ in world.disks[8].files()], world.disks[7].files()), (["start 1"], []))

    def test_refused(self):
        world = world_of(7, settled=False)
        for _ in range(2):
            self.assertIs(world.step_gateway(refuse=True), True)
            self.assertIs(world.step_shard(7, refuse=True), True)
        self.assertEqual((world.gateway.want(), world.stores[7].want()), (("names",), ("names",)))
        for _ in range(3):
            world.step_gateway()
        # The disk does nothing that is refused.
        world.step_gateway(refuse=True)
        self.assertEqual(world.disk.files()[0][1], None)
        world.settle()
        self.assertIs(world.step_gateway(refuse=True), False)

    def test_what_is_said_is_put_under_way(self):
        world = world_of(7, 8)
        world.put(record("a"))
        world.put(record("b"))
        world.write()
        world.step_gateway()
        self.assertEqual((world.outward, world.outcomes), ([], []))
        world.step_gateway()
        self.assertEqual(world.outward, [(7, ("record", 1, record("a"))), (7, ("record", 2, record("b")))])
        self.assertEqual(world.outcomes, [(("put", record("a")), 1), (("put", record("b")), 2), (("lift", 0), 0)])
        world.put(record("c"))
        keep(world)
        # After all others.
        self.assertEqual([message[1] for _, message in world.outward], [1, 2, 3])
        self.assertEqual([outcome for _, outcome in world.outcomes], [1, 2, 0, 3, 2])
        for _ in range(3):
            world.deliver(0, inward=False)
        world.seal(7)
        world.step_shard(7)
        self.assertEqual(world.inward, [])
        world.step_shard(7)
        self.assertEqual([(shard, message[:3]) for shard, message in world.inward], [(7, ("sealed", (1, 0), 1))])

    def test_settle(self):
        world = world_of(7, 8, settled=False)
        self.assertIsNone(world.settle())
        self.assertTrue(world.gateway.up and world.stores[7].ready and world.stores[8].ready)
        self.assertEqual([world.gateway.want(), world.stores[7].want(), world.stores[8].want()], [None] * 3)

    def test_a_turn_has_no_outcomes(self):
        world = world_of(7)
        for _ in range(20):
            world.pin()
        keep(world)
        many = len(world.outcomes)
        keep(world)
        self.assertEqual(world.disk.ask(("names",)), ("names", ["log 2"]))
        self.assertEqual(len(world.outcomes), many)


class StopTest(unittest.TestCase):
    def test_stop_gateway(self):
        for done, cuts, now in ((False, [], 1), (True, [], 2), (True, [("log 1", 1, 0)], 1), (True, [("log 1", 0, 0)], 1)):
            world = world_of(7)
            world.put(record("a"))
            keep(world)
            world.put(record("b"))
            world.write()
            self.assertIsNone(world.stop_gateway(cuts, done=done))
            self.assertFalse(world.gateway.up)
            self.assertEqual((world.gateway.lot, world.gateway.wishes), ([], []))
            world.settle()
            self.assertEqual(world.gateway.catalog.ledger.now, now)

    def test_stop_gateway_that_wants_nothing(self):
        world = world_of(7)
        before = world.disk.files()
        world.stop_gateway([], done=True)
        self.assertEqual((world.disk.files(), world.gateway.want()), (before, ("names",)))

    def test_nothing_is_done_unless_told(self):
        world = world_of(7)
        world.put(record("a"))
        keep(world)
        world.deliver(0, inward=False)
        world.seal(7)
        world.pin()
        world.write()
        before = world.disk.files(), world.disks[7].files()
        world.stop_shard(7, [])
        world.stop_gateway([])
        self.assertEqual((world.disk.files(), world.disks[7].files()), before)

    def test_stop_shard_that_wants_nothing(self):
        world = world_of(7)
        before = world.disks[7].files()
        world.stop_shard(7, [], done=True)
        self.assertEqual((world.disks[7].files(), world.stores[7].want()), (before, ("names",)))

    def test_stop_shard(self):
        for done, cuts, held in ((False, [], []), (True, [], [(1, 0)]), (True, [("segment 1 0", 0, 0)], []), (True, [("segment 1 0", 1, 3)], [])):
            world = world_of(7, 8)
            world.put(record("a"))
            keep(world)
            world.deliver(0, inward=False)
            world.seal(7)
            self.assertIsNone(world.stop_shard(7, cuts, done=done))
            self.assertFalse(world.stores[7].ready)
            self.assertTrue(world.stores[8].ready)
            self.assertTrue(world.gateway.up)
            world.settle()
            self.assertEqual(world.stores[7].status()["held"], held)
            self.assertEqual(world.stores[7].status()["start"], 2)

    def test_messages_outlive_stops(self):
        world = world_of(7)
        world.put(record("a"))
        keep(world)
        world.stop_gateway([])
        world.stop_shard(7, [])
        self.assertEqual(len(world.outward), 1)


class MessageTest(unittest.TestCase):
    def setUp(self):
        self.world = world_of(7, 8)
        for name in "abc":
            self.world.put(record(name))
        keep(self.world)

    def memory(self, shard=7):
        return self.world.stores[shard].status()["memory"]

    def test_deliver_to_a_shard(self):
        self.assertIsNone(self.world.deliver(1, inward=False))
        self.assertEqual((self.memory(), [message[1] for _, message in self.world.outward]), ([2], [1, 3]))
        self.world.deliver(1, inward=False, keep=True)
        self.assertEqual((self.memory(), [message[1] for _, message in self.world.outward]), ([2, 3], [1, 3]))
        self.world.deliver(1, inward=False)
        self.assertEqual((self.memory(), len(self.world.outward)), ([2, 3], 1))

    def test_what_is_said_comes_after_all_others(self):
        segment(self.world, "d")
        self.world.ask(4, Query([0]), 5)
        self.world.ask(4, Query([0]), 6)
        self.world.deliver(0, inward=False, keep=True)
        self.world.deliver(0, inward=False)
        self.assertEqual([(shard, message[:2]) for shard, message in self.world.inward], [(7, ("answer", (1, 1)))] * 2)
        self.world.deliver(0, inward=True, keep=True)
        self.assertEqual((len(self.world.inward), self.world.gateway.queries()[0][2]), (2, [1]))

    def test_deliver_to_the_gateway(self):
        deliver_all(self.world)
        self.world.seal(7)
        self.world.settle()
        self.world.deliver(0, inward=True, keep=True)
        self.assertEqual((len(self.world.inward), self.world.outward), (1, [(7, ("read", (1, 0), (1, 1), 0))]))
        self.world.deliver(0, inward=True)
        self.assertEqual((self.world.inward, len(self.world.outward)), ([], 1))

    def test_the_gateway_is_not_up(self):
        deliver_all(self.world)
        self.world.seal(7)
        self.world.settle()
        self.world.stop_gateway([])
        self.world.deliver(0, inward=True, keep=True)
        self.assertEqual((len(self.world.inward), self.world.outward), (1, []))
        self.world.deliver(0, inward=True)
        self.assertEqual((self.world.inward, self.world.outward), ([], []))
        self.world.lie(8, ("gone", (1, 0)))
        self.assertEqual(self.world.liars, [8])

    def test_a_shard_that_the_world_does_not_have(self):
        self.world.route("x", 99)
        self.world.put(record("x"))
        keep(self.world)
        self.assertEqual(self.world.outward[3], (99, ("record", 4, record("x"))))
        self.world.deliver(3, inward=False, keep=True)
        self.assertEqual(len(self.world.outward), 4)
        self.world.deliver(3, inward=False)
        self.assertEqual((len(self.world.outward), self.world.inward), (3, []))

    def test_lose(self):
        self.assertIsNone(self.world.lose(1, inward=False))
        self.assertEqual([message[1] for _, message in self.world.outward], [1, 3])
        self.assertEqual(self.memory(), [])
        deliver_all(self.world)
        self.world.seal(7)
        self.world.settle()
        self.world.lose(0, inward=True)
        self.assertEqual((self.world.inward, self.world.outward, self.world.gateway.readings()), ([], [], []))

    def test_lie(self):
        self.assertIs(self.world.is_honest(8), True)
        self.assertIsNone(self.world.lie(8, ("sealed", (4, 4), 1, ((),))))
        self.assertEqual(self.world.outward[3:], [(8, ("read", (4, 4), (1, 1), 0))])
        self.world.lie(99, ("hello",))
        self.world.lie(8, ("hello",))
        self.assertEqual(self.world.liars, [8, 99])
        self.assertEqual([self.world.is_honest(shard) for shard in (7, 8, 99)], [True, False, False])
        self.assertIs(self.world.is_honest(8), False)


class CallTest(unittest.TestCase):
    def test_deeds(self):
        world = world_of(7)
        for told in (world.put(record("a")), world.drop("a"), world.pin(), world.route("m", 8), world.write()):
            self.assertIsNone(told)
        world.settle()
        self.assertEqual(world.outcomes, [(("put", record("a")), 1), (("drop", "a"), 2), (("pin",), 2), (("route", "m", 8), 8), (("lift", 0), 0)])
        self.assertIsNone(world.unpin(2))
        keep(world)
        self.assertEqual(world.outcomes[5:], [(("unpin", 2), 2), (("lift", 2), 2)])

    def test_errors(self):
        world = world_of(7)
        for error, call in ((InvalidRecord, lambda: world.put(Record("", [0]))), (NotPinned, lambda: world.unpin(5)),
                            (NoSuchMoment, lambda: world.ask(9, Query([0]), 5)), (NoSuchQuery, lambda: world.finish(1))):
            with self.assertRaises(error):
                call()
        for number in range(FRESH):
            world.put(record(f"r{number}"))
        with self.assertRaises(NotNow):
            world.put(record("new"))
        world.stop_gateway([])
        for call in (lambda: world.put(record("a")), lambda: world.drop("a"), world.pin, lambda: world.unpin(0), lambda: world.route("a", 7),
                     lambda: world.ask(0, Query([0]), 5), lambda: world.finish(1)):
            with self.assertRaises(NotUp):
                call()
        self.assertEqual((world.answers, world.outward), ([], []))

    def test_answers(self):
        world = world_of(7)
        segment(world, "a", "b")
        first, second = Query([0], most=1), Query([5], most=2)
        self.assertEqual([world.ask(2, first, 5), world.ask(2, second, 5)], [1, 2])
        self.assertEqual([message[3:] for _, message in world.outward], [(first, 5), (second, 5)])
        none = world.finish(2)
        self.assertEqual(none, Answer([], 25, False))
        deliver_all(world)
        answer = world.finish(1)
        self.assertEqual(answer, Answer([Hit("a", 1, 0)], 0, True))
        self.assertEqual(world.answers, [(second, 2, none), (first, 2, answer)])
        answer.hits.clear()
        self.assertEqual(world.answers[1], (first, 2, Answer([Hit("a", 1, 0)], 0, True)))

    def test_answers_after_a_stop(self):
        world = world_of(7)
        segment(world, "a", "b")
        world.ask(2, Query([0]), 5)
        world.stop_gateway([])
        world.settle()
        with self.assertRaises(NoSuchQuery):
            world.finish(1)
        world.put(record("c"))
        keep(world)
        query = Query([3])
        self.assertEqual(world.ask(3, query, 5), 1)
        answer = world.finish(1)
        self.assertEqual(world.answers, [(query, 3, answer)])
        with self.assertRaises(NoSuchQuery):
            world.finish(1)
        self.assertEqual(len(world.answers), 1)

    def test_reminders(self):
        world = world_of(7)
        world.put(record("a"))
        keep(world)
        world.outward = []
        self.assertIsNone(world.remind_gateway())
        self.assertEqual(world.outward, [(7, ("record", 1, record("a")))])
        self.assertIsNone(world.remind_shard(7))
        self.assertEqual(world.inward, [])
        deliver_all(world)
        world.seal(7)
        world.settle()
        world.inward = []
        world.remind_shard(7)
        self.assertEqual([message[:2] for _, message in world.inward], [("sealed", (1, 0))])
        world.stop_gateway([])
        self.assertIsNone(world.remind_gateway())
        self.assertEqual(world.outward, [])

    def test_seal_and_merge_do_nothing_if_it_is_not_possible(self):
        world = world_of(7)
        self.assertIsNone(world.seal(7))
        self.assertIsNone(world.merge(7, [(1, 0)]))
        self.assertEqual((world.stores[7].want(), world.inward), (None, []))
        segment(world, "a")
        self.assertIsNone(world.merge(7, [(1, 0)]))
        self.assertEqual(world.inward, [(7, ("needs", (1, 0)))])
        self.assertIsNone(world.merge(7, [(1, 0)]))
        self.assertEqual(len(world.inward), 1)
        deliver_all(world)
        self.assertEqual(world.stores[7].status()["held"], [(1, 1)])
        self.assertEqual(world.gateway.catalog.titles, [(2, 7, (1, 1))])

    def test_write_while_the_gateway_is_not_up(self):
        world = world_of(7, settled=False)
        self.assertIsNone(world.write())
        self.assertEqual(world.gateway.want(), ("names",))


if __name__ == "__main__":
    unittest.main()
