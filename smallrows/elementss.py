"""Calls that go through rows of small numbers, number by number.

Each answers a list: -1 alone where it refuses, else 0 and then the numbers of its row.
"""

GREATEST_N = 1048576


def is_n_told(n):
    return 0 <= n and n <= GREATEST_N


def is_one_or_two(the_bytes):
    return the_bytes == 1 or the_bytes == 2


def is_sign_told(sign):
    return sign == 0 or sign == 1


def span_of(the_bytes):
    """How many different numbers one or two bytes can hold."""
    if the_bytes == 1:
        return 256
    return 65536


def read_signed(number, span):
    """The number that is meant, where those below 0 are told as span more."""
    if number < span // 2:
        return number
    return number - span


def tell_signed(number, span):
    if number < 0:
        return number + span
    return number


def less_unsigned(a, b):
    # b is never below 0, so a less b can't go above the greatest: only the least needs holding.
    return max(a - b, 0)


def less_signed(a, b, span):
    least = 0 - span // 2
    greatest = span // 2 - 1
    difference = read_signed(a, span) - read_signed(b, span)
    return tell_signed(min(max(difference, least), greatest), span)


def mean(n, the_bytes, x, y):
    """Half of the sum of each pair, a half rounded up."""
    if not (is_n_told(n) and is_one_or_two(the_bytes)):
        return [-1]
    answer = [0]
    for i in range(n):
        answer.append((x[i] + y[i] + 1) // 2)
    return answer


def less(n, the_bytes, sign, x, y):
    """x less y of each pair, held in the range of such numbers."""
    if not (is_n_told(n) and is_one_or_two(the_bytes) and is_sign_told(sign)):
        return [-1]
    span = span_of(the_bytes)
    answer = [0]
    for i in range(n):
        if sign == 1:
            answer.append(less_signed(x[i], y[i], span))
        else:
            answer.append(less_unsigned(x[i], y[i]))
    return answer
