"""What the interface asks of every call: names, kinds, nothing changed, nothing kept, nothing printed or drawn in."""

import ast
import contextlib
import importlib.util
import inspect
import io
import pathlib
import unittest

from smallrows import elementss

PARAMETERS = {
    "mean": ["n", "the_bytes", "x", "y"],
    "less": ["n", "the_bytes", "sign", "x", "y"],
    "far": ["n", "x", "y"],
    "squeeze": ["n", "the_bytes", "way", "x"],
    "turn": ["n", "the_bytes", "x", "by"],
    "order": ["n", "low", "high", "x"],
    "slide": ["n", "k", "x"],
    "marks": ["n", "key", "x"],
    "among": ["text", "the_set"],
    "take": ["n", "x"],
}

# How many numbers stand behind the 0 for each one of n.
BEHIND = {"mean": 1, "less": 1, "far": 4, "squeeze": 1, "turn": 1, "order": 8, "slide": 16, "marks": 16, "take": 64}

# The other numbers of a call that reads its lists if only n lets it.
READING = {
    "mean": {"the_bytes": 1},
    "less": {"the_bytes": 1, "sign": 0},
    "far": {},
    "squeeze": {"the_bytes": 4, "way": 1},
    "turn": {"the_bytes": 8},
    "order": {"low": 228, "high": 27},
    "slide": {"k": 0},
    "marks": {"key": 4294967295},
    "take": {},
}

# The numbers of a call that is answered, and the names of its lists.
CALLS = [
    ("mean", {"n": 4, "the_bytes": 1}, {"x": [0, 7, 128, 255], "y": [255, 8, 127, 255]}),
    ("mean", {"n": 3, "the_bytes": 2}, {"x": [0, 700, 65535], "y": [65535, 801, 65535]}),
    ("mean", {"n": 0, "the_bytes": 2}, {"x": [], "y": []}),
    ("mean", {"n": 3, "the_bytes": 3}, {"x": [], "y": []}),
    ("less", {"n": 4, "the_bytes": 1, "sign": 0}, {"x": [0, 7, 128, 255], "y": [255, 6, 127, 0]}),
    ("less", {"n": 4, "the_bytes": 1, "sign": 1}, {"x": [0, 7, 128, 255], "y": [255, 8, 127, 128]}),
    ("less", {"n": 3, "the_bytes": 2, "sign": 0}, {"x": [0, 700, 65535], "y": [65535, 699, 0]}),
    ("less", {"n": 3, "the_bytes": 2, "sign": 1}, {"x": [0, 700, 32768], "y": [65535, 801, 32767]}),
    ("less", {"n": 0, "the_bytes": 1, "sign": 1}, {"x": [], "y": []}),
    ("less", {"n": 3, "the_bytes": 1, "sign": 2}, {"x": [], "y": []}),
    ("far", {"n": 1}, {"x": [0, 7, 128, 255, 9, 3, 77, 8], "y": [255, 6, 127, 0, 1, 2, 3, 4]}),
    ("far", {"n": 2}, {"x": list(range(16)), "y": list(range(200, 168, -2))}),
    ("far", {"n": 0}, {"x": [], "y": []}),
    ("far", {"n": -1}, {"x": [], "y": []}),
    ("squeeze", {"n": 3, "the_bytes": 1, "way": 0}, {"x": [0, 256, 18446744073709551615]}),
    ("squeeze", {"n": 3, "the_bytes": 2, "way": 1}, {"x": [7, 32768, 18446744073709551615]}),
    ("squeeze", {"n": 3, "the_bytes": 4, "way": 2}, {"x": [7, 4294967296, 18446744073709551615]}),
    ("squeeze", {"n": 0, "the_bytes": 4, "way": 2}, {"x": []}),
    ("squeeze", {"n": 3, "the_bytes": 3, "way": 2}, {"x": []}),
    ("turn", {"n": 3, "the_bytes": 4}, {"x": [1, 305419896, 4294967295], "by": [1, 8, 255]}),
    ("turn", {"n": 3, "the_bytes": 8}, {"x": [1, 305419896, 18446744073709551615], "by": [1, 8, 255]}),
    ("turn", {"n": 0, "the_bytes": 8}, {"x": [], "by": []}),
    ("turn", {"n": 3, "the_bytes": 2}, {"x": [], "by": []}),
    ("order", {"n": 1, "low": 27, "high": 0}, {"x": [0, 7, 128, 255, 256, 32767, 32768, 65535]}),
    ("order", {"n": 2, "low": 228, "high": 147}, {"x": list(range(40000, 40016))}),
    ("order", {"n": 0, "low": 0, "high": 255}, {"x": []}),
    ("order", {"n": 3, "low": 0, "high": 256}, {"x": []}),
    ("slide", {"n": 1, "k": 3}, {"x": list(range(100, 116))}),
    ("slide", {"n": 2, "k": -3}, {"x": list(range(100, 132))}),
    ("slide", {"n": 1, "k": 0}, {"x": list(range(100, 116))}),
    ("slide", {"n": 1, "k": 16}, {"x": list(range(100, 116))}),
    ("slide", {"n": 0, "k": -16}, {"x": []}),
    ("slide", {"n": 3, "k": 17}, {"x": []}),
    ("marks", {"n": 1, "key": 7}, {"x": [7, 8, 4294967295, 0] * 4}),
    ("marks", {"n": 2, "key": 4294967295}, {"x": [4294967295] * 3 + [0] * 29}),
    ("marks", {"n": 0, "key": 0}, {"x": []}),
    ("marks", {"n": -1, "key": 0}, {"x": []}),
    ("among", {}, {"text": list(range(100, 116)), "the_set": list(range(90, 106))}),
    ("among", {}, {"text": [255, 7, 255, 0] * 4, "the_set": [7] * 16}),
    ("among", {}, {"text": [255, 7] * 8, "the_set": [255, 0] * 8}),
    ("take", {"n": 1}, {"x": list(range(64))}),
    ("take", {"n": 3}, {"x": list(range(192))}),
    ("take", {"n": 0}, {"x": []}),
    ("take", {"n": -1}, {"x": []}),
]


def refuse_change(self, *args, **kwargs):
    raise AssertionError("a list that was handed in is changed")


class Untouchable(list):
    """A list that tells of any change at once, even one that would be taken back later."""

    append = clear = extend = insert = pop = remove = reverse = sort = refuse_change
    __setitem__ = __delitem__ = __iadd__ = __imul__ = refuse_change


class RowIsRead(Exception):
    pass


def tell_reading(self, *args, **kwargs):
    raise RowIsRead


class Telling(list):
    """A row that tells when it is read: a call that refuses never comes so far."""

    __getitem__ = __iter__ = __len__ = __add__ = __radd__ = __mul__ = copy = tell_reading


def run(name, numbers, lists):
    return getattr(elementss, name)(**numbers, **lists)


def read_anew():
    spec = importlib.util.spec_from_file_location("elementss_anew", elementss.__file__)
    module = importlib.util.module_from_spec(spec)
    spec.loader.exec_module(module)
    return module


class Manners(unittest.TestCase):
    def test_parameters_are_called_as_told(self):
        for name, wanted in PARAMETERS.items():
            self.assertEqual(list(inspect.signature(getattr(elementss, name)).parameters), wanted)

    def test_every_parameter_is_plain(self):
        plain = inspect.Parameter.POSITIONAL_OR_KEYWORD
        for name in PARAMETERS:
            for parameter in inspect.signature(getattr(elementss, name)).parameters.values():
                self.assertEqual((parameter.kind, parameter.default), (plain, inspect.Parameter.empty))

    def test_every_call_is_tried_here(self):
        self.assertEqual(len(PARAMETERS), 10)
        self.assertEqual({name for name, numbers, lists in CALLS}, set(PARAMETERS))
        self.assertEqual(set(READING), set(PARAMETERS) - {"among"})

    def test_by_place_as_by_name(self):
        for name, numbers, lists in CALLS:
            handed = {**numbers, **lists}
            by_place = getattr(elementss, name)(*[handed[key] for key in PARAMETERS[name]])
            self.assertEqual(by_place, run(name, numbers, lists))

    def test_answers_are_lists_of_whole_numbers(self):
        for name, numbers, lists in CALLS:
            answer = run(name, numbers, lists)
            self.assertIs(type(answer), list)
            for number in answer:
                self.assertIs(type(number), int)

    def test_refused_alone_or_as_many_behind_0_as_told(self):
        for name, numbers, lists in CALLS:
            answer = run(name, numbers, lists)
            if answer[0] == -1:
                self.assertEqual(answer, [-1])
            else:
                self.assertEqual(answer[0], 0)
                behind = 16 if name == "among" else numbers["n"] * BEHIND[name]
                self.assertEqual(len(answer), 1 + behind)

    def test_greatest_n_is_not_refused_and_one_more_is(self):
        # No list may be so long, but the promise names this edge: seen is that the call goes on to read its rows.
        for name, numbers in READING.items():
            rows = {key: Telling() for key in PARAMETERS[name] if key not in numbers and key != "n"}
            with self.assertRaises(RowIsRead, msg=name):
                run(name, {"n": 1048576, **numbers}, rows)
            self.assertEqual(run(name, {"n": 1048577, **numbers}, rows), [-1], name)

    def test_lists_are_not_changed(self):
        for name, numbers, lists in CALLS:
            before = {key: list(row) for key, row in lists.items()}
            run(name, numbers, lists)
            self.assertEqual(lists, before)

    def test_lists_are_not_changed_for_a_while(self):
        for name, numbers, lists in CALLS:
            guarded = {key: Untouchable(row) for key, row in lists.items()}
            self.assertEqual(run(name, numbers, guarded), run(name, numbers, lists))

    def test_one_list_handed_in_twice(self):
        row = [0, 1, 128, 255]
        self.assertEqual(elementss.mean(4, 1, row, row), [0, 0, 1, 128, 255])
        self.assertEqual(elementss.less(4, 1, 0, row, row), [0, 0, 0, 0, 0])
        self.assertEqual(elementss.less(4, 1, 1, row, row), [0, 0, 0, 0, 0])
        self.assertEqual(row, [0, 1, 128, 255])
        row = [1, 2, 4, 8, 16, 32, 64, 128]
        self.assertEqual(elementss.far(1, row, row), [0, 0, 15, 180, 120])
        self.assertEqual(elementss.turn(8, 4, row, row),
                         [0, 2147483648, 2147483648, 1073741824, 134217728, 1048576, 32, 64, 128])
        self.assertEqual(row, [1, 2, 4, 8, 16, 32, 64, 128])
        row = [5, 6, 7, 0] * 4
        self.assertEqual(elementss.among(row, row), [0, 255, 255, 255] + [0] * 13)
        self.assertEqual(row, [5, 6, 7, 0] * 4)

    def test_nothing_is_kept(self):
        first = [run(*call) for call in CALLS]
        wanted = [list(answer) for answer in first]
        # Whoever gets an answer may change it: a later answer must not show that.
        for answer in first:
            answer.append(99)
            answer[0] = 77
        self.assertEqual([run(*call) for call in CALLS], wanted)
        again = [run(*call) for call in reversed(CALLS)]
        self.assertEqual(list(reversed(again)), wanted)

    def test_each_call_by_itself(self):
        # A module read anew has no earlier call behind it.
        wanted = [run(*call) for call in CALLS]
        for (name, numbers, lists), answer in zip(CALLS, wanted):
            fresh = read_anew()
            self.assertEqual(getattr(fresh, name)(**numbers, **lists), answer)

    def test_every_call_after_every_other(self):
        wanted = [run(*call) for call in CALLS]
        for first in CALLS:
            for second, answer in zip(CALLS, wanted):
                run(*first)
                self.assertEqual(run(*second), answer, (first[0], second[0]))

    def test_many_orders(self):
        wanted = [run(*call) for call in CALLS]
        for stride in range(1, len(CALLS)):
            for i in range(len(CALLS)):
                place = i * stride % len(CALLS)
                self.assertEqual(run(*CALLS[place]), wanted[place])

    def test_nothing_is_printed(self):
        out = io.StringIO()
        with contextlib.redirect_stdout(out), contextlib.redirect_stderr(out):
            for call in CALLS:
                run(*call)
        self.assertEqual(out.getvalue(), "")

    def test_nothing_is_imported_or_read(self):
        source = pathlib.Path(elementss.__file__).read_text(encoding="ascii")
        for node in ast.walk(ast.parse(source)):
            self.assertNotIsInstance(node, (ast.Import, ast.ImportFrom))
            if isinstance(node, ast.Name):
                self.assertNotIn(node.id, ("print", "open", "input", "eval", "exec", "__import__"))


if __name__ == "__main__":
    unittest.main()
