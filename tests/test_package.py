"""The rules of the language that can be counted: names, characters and sizes of files and functions."""

import ast
import pathlib
import unittest

PACKAGE = pathlib.Path(__file__).resolve().parent.parent / "surenear"
FILES = sorted(PACKAGE.rglob("*.py"))
LIBRARY = {
    "heapq": {"heappush", "heappop", "heapify", "heapreplace", "heappushpop"},
    "math": {"gcd", "lcm", "isqrt", "comb", "perm", "factorial"},
    "itertools": {"product", "combinations", "permutations", "chain", "accumulate", "pairwise", "islice", "zip_longest"},
    "collections": {"defaultdict"},
    "__future__": {"annotations"},
}


class PackageTest(unittest.TestCase):
    def test_files(self):
        self.assertTrue(FILES)
        self.assertLessEqual(len(FILES), 100)
        for path in PACKAGE.rglob("*"):
            if "__pycache__" not in path.parts:
                with self.subTest(path.name):
                    self.assertTrue(path.is_dir() or path.suffix == ".py")
                    self.assertEqual(path.name, path.name.lower())
                    if path.is_dir():
                        self.assertTrue((path / "__init__.py").is_file())
                        self.assertFalse(path.with_suffix(".py").exists())

    def test_characters_and_sizes(self):
        for path in FILES:
            text = path.read_text(encoding="utf-8")
            with self.subTest(str(path)):
                self.assertTrue(all(char == "\n" or " " <= char <= "~" for char in text))
                self.assertLessEqual(len(text.splitlines()), 399)
                self.assertLessEqual(max([len(line) for line in text.splitlines()] + [0]), 120)

    def test_sizes_of_functions(self):
        for path in FILES:
            for node in ast.walk(ast.parse(path.read_text(encoding="utf-8"))):
                if isinstance(node, ast.FunctionDef):
                    self.assertLessEqual(node.end_lineno - node.lineno + 1, 40, (str(path), node.name))

    def test_imports(self):
        for path in FILES:
            for node in ast.walk(ast.parse(path.read_text(encoding="utf-8"))):
                if isinstance(node, ast.ImportFrom):
                    with self.subTest(str(path), line=node.lineno):
                        names = {alias.name for alias in node.names}
                        self.assertEqual(node.level, 0)
                        if node.module.split(".")[0] != "surenear":
                            self.assertLessEqual(names, LIBRARY.get(node.module, set()))
                        else:
                            self.assertNotIn("*", names)
                elif isinstance(node, ast.Import):
                    self.assertEqual((path.name, [alias.name for alias in node.names]), ("__main__.py", ["sys"]))


if __name__ == "__main__":
    unittest.main()
