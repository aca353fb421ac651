"""Promise 1: what qt_four answers, its corners, edges and refusals."""

import contextlib
import io
import unittest
from fractions import Fraction

import reckoning
from meanoffour.singles import qt_four
from reckoning import GREATEST_RIGHT, REFUSED, SIGN, single, turned

LEAST = Fraction(1, 1 << 149)
ONE = Fraction(1)
STEP = Fraction(1, 1 << 23)


def power(k):
    return Fraction(1 << k) if k >= 0 else Fraction(1, 1 << -k)


class Kept(list):
    """A list that no one may change, not for a while either."""

    def refuse(self, *args, **kwargs):
        raise AssertionError("a list that was handed in is changed")

    append = clear = extend = insert = pop = remove = reverse = sort = refuse
    __setitem__ = __delitem__ = __iadd__ = __imul__ = refuse


class MeanCase(unittest.TestCase):
    def told(self, up, *numbers):
        """The one mean of four numbers, as its bits."""
        found = qt_four(up, *[[single(x)] for x in numbers])
        self.assertEqual(found[:2], [1, 1])
        self.assertEqual(len(found), 3)
        return found[2]

    def check(self, numbers, down, up):
        """The means, and those of the four turned about, against written ones."""
        self.assertEqual(self.told(0, *numbers), single(down), (numbers, "down"))
        self.assertEqual(self.told(1, *numbers), single(up), (numbers, "up"))
        about = [-x for x in numbers]
        self.assertEqual(self.told(0, *about), single(-up), (about, "down"))
        self.assertEqual(self.told(1, *about), single(-down), (about, "up"))

    def check_rows(self, rows):
        for up in (0, 1):
            self.assertEqual(qt_four(up, *rows), reckoning.answer(up, *rows))


class Ordinary(MeanCase):
    def test_exact_means(self):
        self.check([ONE, ONE * 2, ONE * 3, ONE * 6], ONE * 3, ONE * 3)
        self.check([ONE, ONE, ONE, ONE * 2], Fraction(5, 4), Fraction(5, 4))
        self.check([ONE * 5, ONE * -1, ONE * -7, ONE], ONE / -2, ONE / -2)

    def test_written_bits(self):
        row = [[0x3F800000], [0x40000000], [0x40400000], [0x40C00000]]
        self.assertEqual(qt_four(0, *row), [1, 1, 0x40400000])
        self.assertEqual(qt_four(1, *row), [1, 1, 0x40400000])
        row = [[0x3F800000], [0x00000001], [0xC0000000], [0x00000000]]
        self.assertEqual(qt_four(0, *row), [1, 1, 0xBE800000])
        self.assertEqual(qt_four(1, *row), [1, 1, 0xBE7FFFFE])

    def test_against_the_exact_reckoning(self):
        for seed in range(20):
            self.check_rows(reckoning.drawn_rows(seed, 150))

    def test_the_answer_is_plain(self):
        rows = reckoning.drawn_rows(77, 5)
        for found in (qt_four(0, *rows), qt_four(1, *rows), qt_four(2, *rows)):
            self.assertIs(type(found), list)
            self.assertEqual({type(x) for x in found}, {int})


class EachRounding(MeanCase):
    """Inputs at which just one of the four roundings isn't exact."""

    def test_of_a_and_b(self):
        for little in (power(-30), STEP / 2, STEP * 3 / 4):
            self.check([ONE, little, -ONE, Fraction(0)], 0, STEP / 4)
            self.check([little, ONE, Fraction(0), -ONE], 0, STEP / 4)
            self.check([ONE, -little / 2, -ONE, Fraction(0)], -STEP / 8, 0)

    def test_of_c_and_d(self):
        for little in (power(-30), STEP / 2, STEP * 3 / 4):
            self.check([-ONE, Fraction(0), ONE, little], 0, STEP / 4)
            self.check([Fraction(0), -ONE, little, ONE], 0, STEP / 4)
            self.check([-ONE, Fraction(0), ONE, -little / 2], -STEP / 8, 0)

    def test_of_these_two(self):
        for little in (power(-30), STEP / 2, STEP * 3 / 4):
            self.check([ONE, Fraction(0), little, Fraction(0)], ONE / 4, ONE / 4 + STEP / 4)
            self.check([Fraction(0), little, Fraction(0), ONE], ONE / 4, ONE / 4 + STEP / 4)
            self.check([ONE, Fraction(0), -little / 2, Fraction(0)], ONE / 4 - STEP / 8, ONE / 4)

    def test_of_the_quarter(self):
        nil = Fraction(0)
        for parts in range(1, 16):
            down, up = parts // 4 * LEAST, -(-parts // 4) * LEAST
            self.check([parts * LEAST, nil, nil, nil], down, up)
            self.check([nil, nil, nil, parts * LEAST], down, up)

    def test_which_numbers_are_summed_first(self):
        half = STEP / 2
        self.check([ONE, half, half, Fraction(0)], ONE / 4, ONE / 4 + STEP / 2)
        self.check([half, half, ONE, Fraction(0)], ONE / 4 + STEP / 4, ONE / 4 + STEP / 4)
        self.check([ONE, half, -ONE, half], STEP / 8, STEP * 3 / 8)
        self.check([ONE, -ONE, half, half], STEP / 4, STEP / 4)

    def test_a_rounding_that_meets_the_next_power(self):
        most = ONE * 2 - STEP
        self.check([most, STEP / 4, Fraction(0), Fraction(0)], most / 4, ONE / 2)
        self.check([most, STEP / 4, ONE * -2, Fraction(0)], -STEP / 4, 0)


class Corners(MeanCase):
    def test_numbers_with_e_0(self):
        self.check_rows([[1, 0x7FFFFF, SIGN | 5, 0x400000], [2, 0x7FFFFF, 3, SIGN | 0x3FFFFF],
                         [3, 0x7FFFFF, SIGN | 0x7FFFFF, 9], [SIGN | 4, 0x7FFFFF, 0, 0]])
        self.assertEqual(qt_four(0, [1], [2], [3], [4]), [1, 1, 2])
        self.assertEqual(qt_four(1, [1], [2], [3], [4]), [1, 1, 3])

    def test_e_0_and_e_1_meet(self):
        row = [[0x7FFFFF], [0x800000], [0x800000], [0x800001]]
        # The sum of c and d has 25 bits, so three roundings in a row aren't exact.
        self.assertEqual(qt_four(0, *row), [1, 1, 0x7FFFFF])
        self.assertEqual(qt_four(1, *row), [1, 1, 0x800001])
        edge = [0x7FFFFE, 0x7FFFFF, 0x800000, 0x800001, 0xFFFFFF, 0x1000000, 0x1000001, 0x1800000]
        edge = edge + [turned(x) for x in edge]
        for x in edge:
            self.check_rows([edge, [x] * 16, edge[::-1], [edge[0]] * 16])

    def test_a_sum_that_is_0(self):
        for x in (1, 0x7FFFFF, 0x800000, 0x3F800000, GREATEST_RIGHT):
            for four in ((x, turned(x), 0, 0), (turned(x), x, x, turned(x)), (x, x, turned(x), turned(x))):
                for up in (0, 1):
                    self.assertEqual(qt_four(up, *[[y] for y in four]), [1, 1, 0])

    def test_a_0_with_s_1(self):
        for up in (0, 1):
            self.assertEqual(qt_four(up, [SIGN], [SIGN], [SIGN], [SIGN]), [1, 1, 0])
            self.assertEqual(qt_four(up, [SIGN], [0], [0], [SIGN]), [1, 1, 0])
            self.assertEqual(qt_four(up, [SIGN], [0x40800000], [SIGN], [SIGN]), [1, 1, 0x3F800000])

    def test_a_quarter_that_comes_to_0_has_s_0(self):
        for parts in (1, 2, 3):
            self.assertEqual(qt_four(1, [SIGN | parts], [0], [0], [0]), [1, 1, 0])
            self.assertEqual(qt_four(0, [parts], [0], [0], [0]), [1, 1, 0])

    def test_sizes_far_apart(self):
        great = power(99)
        nil = Fraction(0)
        self.check([great, LEAST, nil, nil], great / 4, great / 4 * (1 + STEP))
        self.check([great, -LEAST, nil, nil], great / 4 * (1 - STEP / 2), great / 4)
        self.check([great, LEAST, -great, LEAST], 0, great * STEP * 3 / 8)

    def test_a_quarter_below_the_normal_numbers(self):
        self.check([LEAST * (1 << 23), LEAST * 3, Fraction(0), Fraction(0)], LEAST * (1 << 21), LEAST * ((1 << 21) + 1))
        for e in (1, 2, 3, 4):
            for f in (0, 1, 2, 3, 0x7FFFFD, 0x7FFFFE, 0x7FFFFF):
                bits = (e << 23) | f
                self.check_rows([[bits, turned(bits)], [0, 0], [1, 1], [0, SIGN]])

    def test_the_greatest_e(self):
        least, most = 226 << 23, GREATEST_RIGHT
        for up in (0, 1):
            for x in (least, least + 1, most, turned(least), turned(most)):
                self.assertEqual(qt_four(up, [x], [x], [x], [x]), [1, 1, x])
        self.check_rows([[most, most, least], [1, least, turned(most)], [most, 1, most], [turned(1), least, 1]])
        for x in (227 << 23, SIGN | (227 << 23)):
            self.assertEqual(qt_four(0, [x], [0], [0], [0]), REFUSED)

    def test_rows_of_one_and_of_17(self):
        for count in (1, 17):
            rows = reckoning.drawn_rows(count, count)
            self.check_rows(rows)


class EdgesOfN(MeanCase):
    def test_none(self):
        for up in (0, 1):
            self.assertEqual(qt_four(up, [], [], [], []), REFUSED)

    def test_one_and_the_most(self):
        self.check_rows(reckoning.drawn_rows(5, 1))
        self.check_rows(reckoning.drawn_rows(6, 4096))

    def test_too_many(self):
        for count in (4097, 4200):
            rows = reckoning.drawn_rows(7, count)
            for up in (0, 1):
                self.assertEqual(qt_four(up, *rows), REFUSED)


class Refusals(MeanCase):
    def test_up_above_1(self):
        rows = reckoning.drawn_rows(8, 3)
        for up in (2, 3, 256, 1 << 31, 4294967294, 4294967295):
            self.assertEqual(qt_four(up, *rows), REFUSED)

    def test_a_number_that_is_not_right(self):
        for e in range(227, 256):
            for s in (0, SIGN):
                for f in (0, 1, 0x7FFFFF):
                    self.refused_in_each_row(s | (e << 23) | f)

    def refused_in_each_row(self, wrong):
        for k in range(4):
            for spot in (0, 4):
                rows = [[0x3F800000] * 5 for row in range(4)]
                rows[k][spot] = wrong
                for up in (0, 1):
                    self.assertEqual(qt_four(up, *rows), REFUSED, (wrong, k, spot))

    def test_a_wrong_number_in_the_longest_rows(self):
        for k in range(4):
            for spot in (0, 2048, 4095):
                rows = [[1] * 4096 for row in range(4)]
                rows[k][spot] = 0x7F800000
                self.assertEqual(qt_four(0, *rows), REFUSED)

    def test_several_faults_at_once(self):
        self.assertEqual(qt_four(2, [], [], [], []), REFUSED)
        self.assertEqual(qt_four(2, [0x7FC00000], [0], [0], [0]), REFUSED)
        self.assertEqual(qt_four(4294967295, *[[0xFFFFFFFF] * 4200] * 4), REFUSED)


class NothingIsKept(MeanCase):
    def test_what_is_handed_in_is_not_changed(self):
        for count in (1, 17, 4097):
            for up in (0, 1, 2):
                rows = reckoning.drawn_rows(9, count)
                kept = [Kept(row) for row in rows]
                qt_four(up, *kept)
                self.assertEqual([list(row) for row in kept], rows)

    def test_one_list_as_all_four_rows(self):
        row = reckoning.drawn_rows(10, 17)[0]
        before = list(row)
        for up in (0, 1):
            self.assertEqual(qt_four(up, row, row, row, row), [1, 17] + [x if x != SIGN else 0 for x in before])
        self.assertEqual(row, before)

    def test_a_second_call_answers_as_the_first(self):
        rows = reckoning.drawn_rows(11, 17)
        for up in (0, 1, 2):
            first = qt_four(up, *rows)
            kept = list(first)
            qt_four(1 - min(up, 1), *reckoning.drawn_rows(12, 5))
            first.append(7)
            qt_four(2, [], [], [], []).append(7)
            self.assertEqual(qt_four(up, *rows), kept)

    def test_nothing_is_printed(self):
        out, err = io.StringIO(), io.StringIO()
        with contextlib.redirect_stdout(out), contextlib.redirect_stderr(err):
            for up in (0, 1, 2):
                qt_four(up, *reckoning.drawn_rows(13, 17))
        self.assertEqual(out.getvalue() + err.getvalue(), "")


if __name__ == "__main__":
    unittest.main()
