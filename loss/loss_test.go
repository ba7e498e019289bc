package loss_test

import "ratchet/sample"

const most = sample.Most

var of, row = sample.Of, sample.Row
