"""The mean of four singles, with every step rounded the same way.

A single is handed in and given back as its 32 bits. Between these two its
value is a whole number of 2^-149, the least step that singles have: so every
right single and every sum of right ones is held exactly.
"""

HIDDEN_BIT = 8388608
FRACTION_MASK = 8388607
SIGN_BIT = 2147483648
GREATEST_RIGHT_EXPONENT = 226
GREATEST_COUNT = 4096


def exponent_of(bits):
    return (bits >> 23) & 255


def value_of(bits):
    exponent = exponent_of(bits)
    size = bits & FRACTION_MASK
    if exponent > 0:
        size = (HIDDEN_BIT + size) << (exponent - 1)
    if bits >= SIGN_BIT:
        return -size
    return size


def surplus_bits(value):
    """How many low bits of the value a single has no room for."""
    return max(0, abs(value).bit_length() - 24)


def bits_of(value):
    """The bits of a value that is a single; 0 comes out without a sign."""
    surplus = surplus_bits(value)
    # The hidden bit is added into e, not cut off: it is what makes e one more
    # than the surplus for a normal number, and it is missing where e is 0.
    bits = (surplus << 23) + (abs(value) >> surplus)
    if value < 0:
        return SIGN_BIT + bits
    return bits


def single_not_above(value):
    """The greatest single that is not above the value."""
    surplus = surplus_bits(value)
    # A right shift goes down below 0 too, so both signs round the same way.
    return (value >> surplus) << surplus


def mean_not_above(a, b, c, d):
    first = single_not_above(a + b)
    second = single_not_above(c + d)
    total = single_not_above(first + second)
    # A single of 26 bits or more is a multiple of 4, and a shorter one leaves
    # a quarter of at most 24 bits: either way the shift alone meets a single.
    return total >> 2


def mean_not_below(a, b, c, d):
    # Turned about, the least not below is the greatest not above.
    return -mean_not_above(-a, -b, -c, -d)


def all_right(row):
    for bits in row:
        if exponent_of(bits) > GREATEST_RIGHT_EXPONENT:
            return False
    return True


def is_refused(up, a, b, c, d):
    if len(a) < 1 or len(a) > GREATEST_COUNT or up > 1:
        return True
    return not (all_right(a) and all_right(b) and all_right(c) and all_right(d))


def mean_bits(up, a, b, c, d):
    if up == 1:
        return bits_of(mean_not_below(value_of(a), value_of(b), value_of(c), value_of(d)))
    return bits_of(mean_not_above(value_of(a), value_of(b), value_of(c), value_of(d)))


def qt_four(up, a, b, c, d):
    """[0, -22] where it is refused, else 1, how many means, and they."""
    if is_refused(up, a, b, c, d):
        return [0, -22]
    answer = [1, len(a)]
    for i in range(len(a)):
        answer.append(mean_bits(up, a[i], b[i], c[i], d[i]))
    return answer
