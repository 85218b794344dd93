"""Calls that go through rows of small numbers, number by number.

Each answers a list: -1 alone where it refuses, else 0 and then the numbers of its row.
"""

GREATEST_N = 1048576

# How many different numbers so many bytes can hold.
SPANS = {1: 256, 2: 65536, 4: 4294967296, 8: 18446744073709551616}


def is_n_told(n):
    return 0 <= n and n <= GREATEST_N


def is_one_or_two(the_bytes):
    return the_bytes == 1 or the_bytes == 2


def is_sign_told(sign):
    return sign == 0 or sign == 1


def is_one_two_or_four(the_bytes):
    return is_one_or_two(the_bytes) or the_bytes == 4


def is_way_told(way):
    return 0 <= way and way <= 2


def is_four_or_eight(the_bytes):
    return the_bytes == 4 or the_bytes == 8


def is_order_told(code):
    return 0 <= code and code <= 255


def is_slide_told(k):
    return -16 <= k and k <= 16


def is_key_told(key):
    return 0 <= key and key < SPANS[4]


def read_signed(number, span):
    """The number that is meant, where those below 0 are told as span more."""
    if number < span // 2:
        return number
    return number - span


def tell_signed(number, span):
    if number < 0:
        return number + span
    return number


def hold_signed(number, span):
    """The number as it is told, or the least or the greatest where it goes past them."""
    least = 0 - span // 2
    greatest = span // 2 - 1
    return tell_signed(min(max(number, least), greatest), span)


def less_unsigned(a, b):
    # b is never below 0, so a less b can't go above the greatest: only the least needs holding.
    return max(a - b, 0)


def less_signed(a, b, span):
    return hold_signed(read_signed(a, span) - read_signed(b, span), span)


def four_apart(x, x_start, y, y_start):
    """The sum of what four bytes of x, from x_start on, differ by from four of y."""
    total = 0
    for j in range(4):
        total = total + abs(x[x_start + j] - y[y_start + j])
    return total


def squeeze_number(number, way, span):
    if way == 0:
        return number % span
    if way == 1:
        return hold_signed(read_signed(number, SPANS[8]), span)
    return min(number, span - 1)


def turn_right(number, by, the_bytes):
    span = SPANS[the_bytes]
    # Written twice in a row, the number's second writing brings in at the top what falls out below.
    twice = number * span + number
    return (twice >> by % (8 * the_bytes)) % span


def words_told(code):
    """Which of four words each of four places gets: two bits of the code a place, the lowest first."""
    return [code % 4, code // 4 % 4, code // 16 % 4, code // 64 % 4]


def byte_or_nothing(x, start, place):
    """The byte at a place of the group of 16 that begins at start, 0 where the group has no such place."""
    if 0 <= place and place < 16:
        return x[start + place]
    return 0


def mark_group(key, x, start):
    """Bit j is set where number j of the group of 16 that begins at start is key."""
    marked = 0
    bit = 1
    for j in range(16):
        if x[start + j] == key:
            marked = marked + bit
        bit = bit * 2
    return marked


def before_first_zero(row):
    told = []
    for byte in row:
        if byte == 0:
            return told
        told.append(byte)
    return told


def mean(n, the_bytes, x, y):
    """Half of the sum of each pair, a half rounded up."""
    if not (is_n_told(n) and is_one_or_two(the_bytes)):
        return [-1]
    answer = [0]
    for i in range(n):
        answer.append((x[i] + y[i] + 1) // 2)
    return answer


def less(n, the_bytes, sign, x, y):
    """x less y of each pair, held in the range of such numbers."""
    if not (is_n_told(n) and is_one_or_two(the_bytes) and is_sign_told(sign)):
        return [-1]
    span = SPANS[the_bytes]
    answer = [0]
    for i in range(n):
        if sign == 1:
            answer.append(less_signed(x[i], y[i], span))
        else:
            answer.append(less_unsigned(x[i], y[i]))
    return answer


def far(n, x, y):
    """Of each group of eight bytes four sums: x's two halves against y at places that slide."""
    if not is_n_told(n):
        return [-1]
    answer = [0]
    for g in range(n):
        start = 8 * g
        answer.append(four_apart(x, start, y, start))
        answer.append(four_apart(x, start, y, start + 1))
        answer.append(four_apart(x, start + 4, y, start + 2))
        answer.append(four_apart(x, start + 4, y, start + 3))
    return answer


def squeeze(n, the_bytes, way, x):
    """Numbers of eight bytes in fewer: their lowest bytes, or held in range with or without signs."""
    if not (is_n_told(n) and is_one_two_or_four(the_bytes) and is_way_told(way)):
        return [-1]
    answer = [0]
    for i in range(n):
        answer.append(squeeze_number(x[i], way, SPANS[the_bytes]))
    return answer


def turn(n, the_bytes, x, by):
    """Each number turned right by as many bits as by tells for it."""
    if not (is_n_told(n) and is_four_or_eight(the_bytes)):
        return [-1]
    answer = [0]
    for i in range(n):
        answer.append(turn_right(x[i], by[i], the_bytes))
    return answer


def order(n, low, high, x):
    """Each group of eight words, its first four in the order that low tells, its last four by high."""
    if not (is_n_told(n) and is_order_told(low) and is_order_told(high)):
        return [-1]
    answer = [0]
    for g in range(n):
        start = 8 * g
        for word in words_told(low):
            answer.append(x[start + word])
        for word in words_told(high):
            answer.append(x[start + 4 + word])
    return answer


def slide(n, k, x):
    """Each group of 16 bytes k places up, or down where k is below 0."""
    if not (is_n_told(n) and is_slide_told(k)):
        return [-1]
    answer = [0]
    for g in range(n):
        for place in range(16):
            answer.append(byte_or_nothing(x, 16 * g, place - k))
    return answer


def marks(n, key, x):
    """For each group of 16 numbers 16 times the same: which of them are key."""
    if not (is_n_told(n) and is_key_told(key)):
        return [-1]
    answer = [0]
    for g in range(n):
        answer.extend([mark_group(key, x, 16 * g)] * 16)
    return answer


def among(text, the_set):
    """255 at each place where the text has a byte that is among the set's, else 0."""
    told = before_first_zero(text)
    wanted = before_first_zero(the_set)
    answer = [0]
    for j in range(16):
        if j < len(told) and told[j] in wanted:
            answer.append(255)
        else:
            answer.append(0)
    return answer


def take(n, x):
    """The groups of 64 bytes as they are, in a list of their own."""
    if not is_n_told(n):
        return [-1]
    return [0] + x
