"""What holds, a to d, over many inputs drawn with a fixed seed."""

import random
import unittest
from fractions import Fraction

import reckoning
from meanoffour.singles import qt_four
from reckoning import GREATEST_RIGHT, at_place, number, place, turned

COUNT = 4096
SEEDS = (101, 102, 103)


def means(up, rows):
    return qt_four(up, *rows)[2:]


class WhatHolds(unittest.TestCase):
    def setUp(self):
        self.draws = [reckoning.drawn_rows(seed, COUNT) for seed in SEEDS]

    def test_a_between(self):
        for rows in self.draws:
            for four, down, up in zip(zip(*rows), means(0, rows), means(1, rows), strict=True):
                numbers = [number(x) for x in four]
                told = [min(numbers), number(down), sum(numbers) / 4, number(up), max(numbers)]
                self.assertEqual(told, sorted(told), four)

    def test_b_more_gives_no_less(self):
        draw = random.Random(104)
        for rows in self.draws:
            more = [[self.no_less(x, draw) for x in row] for row in rows]
            for up in (0, 1):
                for less, greater in zip(means(up, rows), means(up, more), strict=True):
                    self.assertLessEqual(number(less), number(greater))

    def no_less(self, x, draw):
        add = draw.choice((0, 0, 1, 2, 1 << 23, draw.getrandbits(30)))
        return at_place(min(place(x) + add, GREATEST_RIGHT))

    def test_c_turned_about(self):
        for rows in self.draws:
            about = [[turned(x) for x in row] for row in rows]
            for up in (0, 1):
                expected = [turned(x) if x != 0 else 0 for x in means(1 - up, rows)]
                self.assertEqual(means(up, about), expected)

    def test_d_near(self):
        for rows in self.draws:
            for four, down, up in zip(zip(*rows), means(0, rows), means(1, rows), strict=True):
                sizes = sum(abs(number(x)) for x in four)
                most = sizes / (1 << 21) + Fraction(1, 1 << 149)
                self.assertLessEqual(number(up) - number(down), most, four)

    def test_0_comes_out_with_s_0_and_all_are_right(self):
        for rows in self.draws:
            for x in means(0, rows) + means(1, rows):
                self.assertNotEqual(x, 1 << 31)
                self.assertLessEqual(x & 0x7FFFFFFF, GREATEST_RIGHT)


if __name__ == "__main__":
    unittest.main()
