"""The package's files keep to the small part of Python, and import nothing."""

import ast
import pathlib
import unittest

PACKAGE = pathlib.Path(__file__).resolve().parent.parent / "meanoffour"
OWN_NAMES = {"abs", "len", "max", "range"}
OWN_METHODS = {"append", "bit_length"}
STATEMENTS = (ast.FunctionDef, ast.Assign, ast.If, ast.For, ast.Return, ast.Expr)
OPERATORS = (ast.Add, ast.Sub, ast.BitAnd, ast.LShift, ast.RShift)


class Language(unittest.TestCase):
    def setUp(self):
        self.files = sorted(p for p in PACKAGE.iterdir() if p.name != "__pycache__")
        self.trees = [ast.parse(p.read_text(encoding="utf-8")) for p in self.files]

    def nodes(self, kind):
        return [node for tree in self.trees for node in ast.walk(tree) if isinstance(node, kind)]

    def test_the_files(self):
        self.assertEqual([p.name for p in self.files], ["__init__.py", "singles.py"])

    def test_signs_and_sizes(self):
        for path in self.files:
            text = path.read_bytes().decode("ascii")
            self.assertTrue(all(sign == "\n" or " " <= sign <= "~" for sign in text))
            lines = text.splitlines()
            self.assertLessEqual(len(lines), 400)
            self.assertTrue(all(len(line) <= 120 for line in lines))
        for node in self.nodes(ast.FunctionDef):
            self.assertLessEqual(node.end_lineno - node.lineno + 1, 40)

    def test_statements_and_operators(self):
        for node in self.nodes(ast.stmt):
            self.assertIsInstance(node, STATEMENTS)
        for node in self.nodes(ast.BinOp):
            self.assertIsInstance(node.op, OPERATORS)

    def test_names(self):
        own = {node.name for node in self.nodes(ast.FunctionDef)}
        own |= {node.arg for node in self.nodes(ast.arg)}
        own |= {node.id for node in self.nodes(ast.Name) if isinstance(node.ctx, ast.Store)}
        for node in self.nodes(ast.Name):
            self.assertIn(node.id, own | OWN_NAMES)
        self.assertFalse(own & set(dir(__import__("builtins"))))
        self.assertTrue(all(not name.startswith("_") for name in own))
        for node in self.nodes(ast.Attribute):
            self.assertIn(node.attr, OWN_METHODS)

    def test_plain_values(self):
        for node in self.nodes(ast.Constant):
            self.assertIn(type(node.value), (int, str, bool))


if __name__ == "__main__":
    unittest.main()
