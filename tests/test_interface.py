"""The interface: names, arguments, and where classes and functions are defined."""

import importlib
import inspect
import unittest

# Of each module the functions with their arguments, and of each class the arguments and
# the methods that stand in the class itself.
FUNCTIONS = {
    "surenear.basics.numbers": {
        "root": "(number)", "inner": "(a, b)", "distance": "(a, b)", "differing": "(a, b)", "norm": "(a)",
        "gap": "(far, near)", "split": "(d, e, f)",
    },
    "surenear.records.marks": {
        "row_of": "(number, record)", "check_key": "(key)", "mark_of": "(key, number, record)",
    },
    "surenear.filters.tokens": {"read_tokens": "(text)"},
    "surenear.filters.reading": {"read_filter": "(schema, text)"},
    "surenear.regions.region": {
        "is_partition": "(regions)", "way_up": "(regions, place)", "lies_in": "(regions, place, other)",
        "facts_at": "(regions, place)", "tops": "(regions)",
    },
    "surenear.facts.bounds": {"can_pass": "(condition, facts)", "bound_of": "(question, facts)"},
    "surenear.codes.writing": {
        "list_code": "(codes)", "string_code": "(text)", "value_code": "(worth)", "maybe_code": "(code)",
        "numbers_code": "(numbers)", "record_code": "(record)", "fact_code": "(fact)", "region_code": "(region)",
        "partition_code": "(regions)", "entry_code": "(entry)", "offer_code": "(offer)",
    },
    "surenear.codes.reading": {"read_record": "(numbers)", "read_offer": "(numbers)"},
    "surenear.building.training": {"nearest": "(centres, vector)", "train": "(vectors, number, rounds)"},
    "surenear.building.layouts": {"block_layout": "(order, size)"},
    "surenear.building.facts": {"facts_of": "(schema, kinds, sketch, records)"},
    "surenear.building.build": {
        "build": "(schema, rule, kinds, records)", "build_offer": "(schema, rules, kinds, numbered)",
    },
    "surenear.search.answers": {"at_most": "(a, b)", "answer_of": "(question, pairs, regions)"},
    "surenear.reports.reckoning": {
        "part_fits": "(ledger, moment, part)", "is_possible": "(ledger, moment, report)",
        "reckon": "(ledger, question, moment, report)",
    },
    "surenear.disks.blocks": {"sum_of": "(numbers)", "block_of": "(numbers)", "read_blocks": "(numbers)"},
    "surenear.disks.journal": {"log_name": "(number)", "log_number": "(name)", "read_log": "(numbers)"},
    "surenear.stores.segments": {
        "segment_file": "(name)", "start_file": "(start)", "read_file_name": "(text)", "pieces_of": "(offer)",
        "piece_at": "(offer, index)",
    },
    "surenear.gateway.catalog": {"news_of": "(before, after, deed)"},
    "surenear.gateway.deeds": {
        "deed_code": "(deed)", "catalog_code": "(catalog)", "read_deed": "(numbers)",
        "read_catalog": "(schema, key, numbers)",
    },
}
CLASSES = {
    "surenear.errors": {"InvalidFilter": ("(fault, place)", {})},
    "surenear.basics.ranks": {
        "Rank": ("(cost, name)", {"before": "(self, other)", "__eq__": None, "pair": None}),
    },
    "surenear.records.schema": {
        "Schema": ("(size, *, width='small', measure='square', fields=())", {
            "kind_of": "(self, name)", "far": "(self, a, b)", "check": "(self, record)", "__contains__": None,
            "__eq__": None, "least": None, "greatest": None,
        }),
    },
    "surenear.records.record": {
        "Record": ("(name, vector, *, fields=(), words=())", {
            "value": "(self, name)", "count_of": "(self, word)", "__eq__": None,
        }),
    },
    "surenear.filters.tokens": {"Token": ("(kind, value, place)", {"__eq__": None})},
    "surenear.filters.conditions": {
        "Condition": ("()", {"__and__": None, "__or__": None, "__invert__": None, "__eq__": None, "__str__": None}),
        "Every": ("()", {"passes": "(self, record)"}),
        "Has": ("(field)", {"passes": "(self, record)"}),
        "Compare": ("(field, sign, value)", {"passes": "(self, record)"}),
        "OneOf": ("(field, choices)", {"passes": "(self, record)"}),
        "Both": ("(a, b)", {"passes": "(self, record)"}),
        "Either": ("(a, b)", {"passes": "(self, record)"}),
        "Negation": ("(a)", {"passes": "(self, record)"}),
    },
    "surenear.facts.fact": {
        "Fact": ("()", {
            "holds": "(self, record)", "least_distance": "(self, q)", "least_differing": "(self, q)",
            "most_product": "(self, q)", "count_bound": "(self, word)", "name_bound": "(self)",
            "outcomes": "(self, condition)",
        }),
    },
    "surenear.facts.vectors": {
        "Part": ("(start, centre, radius)", {"after": None, "__eq__": None}),
        "Parts": ("(parts)", {"holds": "(self, record)", "least_distance": "(self, q)", "most_product": "(self, q)"}),
        "Cell": ("(near, rival)", {"holds": "(self, record)", "least_distance": "(self, q)"}),
        "Box": ("(low, high)", {"holds": "(self, record)", "least_distance": "(self, q)", "most_product": "(self, q)"}),
        "Norms": ("(low, high)", {"holds": "(self, record)", "least_distance": "(self, q)", "most_product": "(self, q)"}),
        "Differ": ("(centre, most)", {"holds": "(self, record)", "least_differing": "(self, q)"}),
    },
    "surenear.facts.contents": {
        "Range": ("(field, low, high, *, lack='nobody')", {"holds": "(self, record)", "outcomes": "(self, condition)"}),
        "Values": ("(field, choices, *, lack='nobody')", {"holds": "(self, record)", "outcomes": "(self, condition)"}),
        "Counts": ("(words)", {"holds": "(self, record)", "count_bound": "(self, word)"}),
        "Names": ("(low, high)", {"holds": "(self, record)", "name_bound": "(self)"}),
    },
    "surenear.regions.region": {"Region": ("(parent, facts)", {"__eq__": None})},
    "surenear.costs.query": {"Query": ("(vector, *, near=1, words=(), text='every', most=1)", {"__eq__": None})},
    "surenear.costs.question": {
        "Question": ("(schema, query)", {
            "passes": "(self, record)", "cost": "(self, record)", "rank": "(self, record)", "first": "(self, records)",
        }),
    },
    "surenear.facts.bounds": {"Bound": ("(cost, name, can)", {"__eq__": None})},
    "surenear.regions.offer": {
        "Entry": ("(number, record, leaves)", {"__eq__": None}),
        "Offer": ("(partitions, entries)", {
            "__eq__": None, "sound": None, "write_numbers": None, "below": "(self, k, place)",
        }),
    },
    "surenear.codes.reading": {
        "NumberReader": ("(numbers)", {
            "take": "(self)", "size": "(self)", "string": "(self)", "value": "(self)", "integers": "(self)",
            "present": "(self)", "record": "(self)", "fact": "(self)", "region": "(self)", "partition": "(self)",
            "entry": "(self)", "offer": "(self)", "finish": "(self)",
        }),
    },
    "surenear.building.layouts": {
        "Sketch": ("(parent, *, centres=(), cells=())", {}), "Layout": ("(sketches, leaves)", {}),
    },
    "surenear.building.rules": {
        "Blocks": ("(size)", {"layout": "(self, schema, records)"}),
        "SortedBlocks": ("(field, size)", {"layout": "(self, schema, records)"}),
        "Lists": ("(centres, *, rounds=0, cells=0, size=1)", {"layout": "(self, schema, records)"}),
        "Codes": ("(parts, *, centres, rounds=0)", {"layout": "(self, schema, records)"}),
        "Net": ("(layers)", {"layout": "(self, schema, records)"}),
    },
    "surenear.search.answers": {
        "Hit": ("(name, number, cost)", {"__eq__": None}), "Answer": ("(hits, bound, exact)", {"__eq__": None}),
    },
    "surenear.search.report": {"ReportPart": ("(segment, partition, left, numbers, records)", {"__eq__": None})},
    "surenear.search.search": {
        "Source": ("(segment, partition, regions, entries)", {}),
        "Search": ("(question, sources, *, walk=0)", {
            "run": "(self, steps)", "answer": "(self)", "report": "(self)", "ended": "(self)",
        }),
    },
    "surenear.ledger.note": {
        "Note": ("(name, number, mark, *, died=None, record=None, segment=None, leaves=())", {
            "lives_at": "(self, moment)", "matches": "(self, key, number, record)", "__eq__": None,
        }),
        "Segment": ("(number, shard, partitions)", {"__eq__": None}),
    },
    "surenear.ledger.ledger": {
        "Ledger": ("(schema, key)", {
            "put": "(self, record)", "drop": "(self, name)", "pin": "(self)", "unpin": "(self, moment)",
            "lift": "(self, moment)", "audit": "(self, shard, offer)", "own": "(self, shard, partitions, homes)",
            "would_take": "(self, offer)", "keeps": "(self, moment)", "live": "(self, moment)", "note_of": "(self, name)",
            "segment_of": "(self, number)", "owned_by": "(self, number)", "fresh": "(self)", "twin": "(self)",
        }),
    },
    "surenear.disks.disk": {"Disk": ("()", {"ask": "(self, operation)", "crash": "(self, cuts)", "files": "(self)"})},
    "surenear.disks.journal": {
        "Journal": ("(first)", {
            "add": "(self, entry)", "turn": "(self, base)", "want": "(self)", "told": "(self, answer)", "up": None,
            "waiting": None,
        }),
    },
    "surenear.stores.store": {
        "Store": ("(schema, rules, *, kinds=(), partition=0, walk=0, most=100)", {
            "want": "(self)", "told": "(self, answer)", "hear": "(self, message)", "seal": "(self)",
            "merge": "(self, names)", "remind": "(self)", "crash": "(self)", "status": "(self)", "ready": None,
        }),
    },
    "surenear.gateway.catalog": {
        "Catalog": ("(schema, key, shard)", {
            "apply": "(self, deed)", "twin": "(self)", "shard_of": "(self, name)", "title_of": "(self, segment)",
            "segment_named": "(self, shard, name)", "turns": "(self, shard, name, note)",
        }),
    },
    "surenear.gateway.gateway": {
        "Gateway": ("(schema, key, shard)", {
            "want": "(self)", "told": "(self, answer)", "write": "(self)", "put": "(self, record)",
            "drop": "(self, name)", "pin": "(self)", "unpin": "(self, moment)", "route": "(self, low, shard)",
            "hear": "(self, shard, message)", "ask": "(self, moment, query, budget)", "finish": "(self, number)",
            "remind": "(self)", "crash": "(self)", "readings": "(self)", "queries": "(self)", "up": None,
        }),
    },
    "surenear.worlds.world": {
        "World": ("(schema, key, shards, rules, *, kinds=(), partition=0, walk=0, most=100)", {
            "step_gateway": "(self, *, refuse=False)", "step_shard": "(self, shard, *, refuse=False)",
            "settle": "(self)", "stop_gateway": "(self, cuts, *, done=False)",
            "stop_shard": "(self, shard, cuts, *, done=False)", "deliver": "(self, place, *, inward, keep=False)",
            "lose": "(self, place, *, inward)", "lie": "(self, shard, message)", "put": "(self, record)",
            "drop": "(self, name)", "pin": "(self)", "unpin": "(self, moment)", "route": "(self, low, shard)",
            "write": "(self)", "ask": "(self, moment, query, budget)", "finish": "(self, number)",
            "remind_gateway": "(self)", "remind_shard": "(self, shard)", "seal": "(self, shard)",
            "merge": "(self, shard, names)", "is_honest": "(self, shard)",
        }),
    },
}
# The properties; all other attributes that the interface lists are fields.
PROPERTIES = {
    ("surenear.basics.ranks", "Rank"): ["pair"],
    ("surenear.records.schema", "Schema"): ["greatest", "least"],
    ("surenear.facts.vectors", "Part"): ["after"],
    ("surenear.regions.offer", "Offer"): ["sound", "write_numbers"],
    ("surenear.disks.journal", "Journal"): ["up", "waiting"],
    ("surenear.stores.store", "Store"): ["ready"],
    ("surenear.gateway.gateway", "Gateway"): ["up"],
}


class InterfaceTest(unittest.TestCase):
    def test_functions(self):
        for module, functions in FUNCTIONS.items():
            for name, arguments in functions.items():
                with self.subTest(module=module, name=name):
                    function = getattr(importlib.import_module(module), name)
                    self.assertEqual(function.__module__, module)
                    self.assertEqual(str(inspect.signature(function)), arguments)

    def test_classes(self):
        for module, classes in CLASSES.items():
            for name, (arguments, methods) in classes.items():
                with self.subTest(module=module, name=name):
                    found = getattr(importlib.import_module(module), name)
                    self.assertEqual(found.__module__, module)
                    if arguments != "()":
                        self.assertEqual(str(inspect.signature(found)), arguments)
                    else:
                        found()
                    for method, told in methods.items():
                        self.assertIn(method, vars(found))
                        if told is not None:
                            self.assertEqual(str(inspect.signature(vars(found)[method])), told)

    def test_properties(self):
        for module, classes in CLASSES.items():
            for name in classes:
                with self.subTest(module=module, name=name):
                    found = vars(getattr(importlib.import_module(module), name))
                    properties = sorted(key for key, told in found.items() if isinstance(told, property))
                    self.assertEqual(properties, PROPERTIES.get((module, name), []))


if __name__ == "__main__":
    unittest.main()
