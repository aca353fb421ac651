"""An exact reckoning of the means, written apart from the program.

It reads singles through struct and reckons in fractions: a single is found
near the wanted number and then stepped, one single at a time, to the bound.
"""

import random
import struct
from fractions import Fraction

SIGN = 1 << 31
REFUSED = [0, -22]
GREATEST_RIGHT = (226 << 23) | 0x7FFFFF


def number(bits):
    return Fraction(struct.unpack("<f", struct.pack("<I", bits))[0])


def single(x):
    """The bits of a number that is a single; 0 with s 0."""
    bits = struct.unpack("<I", struct.pack("<f", float(x)))[0]
    assert number(bits) == x, x
    return 0 if x == 0 else bits


def place(bits):
    """Where a single stands in the order of all singles; both zeros at 0."""
    return bits if bits < SIGN else SIGN - bits


def at_place(k):
    return k if k >= 0 else SIGN - k


def bound(x, up):
    """The greatest single not above x, or the least not below it."""
    near = struct.unpack("<I", struct.pack("<f", float(x)))[0]
    k = place(near)
    if up:
        while number(at_place(k)) < x:
            k += 1
        while number(at_place(k - 1)) >= x:
            k -= 1
    else:
        while number(at_place(k)) > x:
            k -= 1
        while number(at_place(k + 1)) <= x:
            k += 1
    return number(at_place(k))


def mean(up, a, b, c, d):
    first = bound(number(a) + number(b), up)
    second = bound(number(c) + number(d), up)
    return single(bound(bound(first + second, up) / 4, up))


def answer(up, a, b, c, d):
    return [1, len(a)] + [mean(up, *four) for four in zip(a, b, c, d)]


def turned(bits):
    return bits ^ SIGN


def any_right(draw):
    return (draw.getrandbits(1) << 31) | (draw.randint(0, 226) << 23) | draw.getrandbits(23)


def drawn_four(draw):
    """Four right singles: of any size, of sizes near one another, or tiny."""
    way = draw.randrange(5)
    if way == 0:
        return [any_right(draw) for i in range(4)]
    if way == 1:
        return [(draw.getrandbits(1) << 31) | draw.getrandbits(draw.randint(1, 26)) for i in range(4)]
    low = draw.randint(0, 226)
    four = []
    for i in range(4):
        e = min(226, low + draw.randint(0, 30 if way == 2 else 3))
        four.append((draw.getrandbits(1) << 31) | (e << 23) | draw.getrandbits(23))
    if way == 4:
        i, j = draw.sample(range(4), 2)
        four[i] = turned(four[j])
    return four


def drawn_rows(seed, count):
    draw = random.Random(seed)
    fours = [drawn_four(draw) for i in range(count)]
    return [[four[k] for four in fours] for k in range(4)]
