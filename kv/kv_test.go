package kv_test

import (
	"slices"
	"strings"
	"testing"

	"plexus/api"
	"plexus/disk"
	"plexus/kv"
)

func TestExample(t *testing.T) {
	d := disk.New()
	s := open(t, d)
	fine(t, s.Write(put(0, "a", "1"), put(0, "b", "2")), s.Write(gone(0, "a")), s.Turn())
	has(t, open(t, d), put(0, "b", "2"))
	fine(t, d.Crash(0, 0))
	has(t, open(t, d), put(0, "b", "2"))
}

// Each batch does its changes one behind the other; what it made is there at once, and behind opening again.
func TestWrite(t *testing.T) {
	s, d := begun(t)
	has(t, s)
	var done []api.Op
	for _, l := range [][]api.Op{
		{put(1, "a", "1")},
		{put(1, "b", "2"), put(2, "a", "3"), put(1, "a", "4")},
		{},
		{put(1, "a", "5"), gone(1, "a"), put(1, "a", "6")},
		{put(1, "c", "7"), gone(1, "c")},
		{gone(1, "c"), gone(3, "a"), gone(0, "")},
		{gone(2, "a")},
		{put(2, "a", "")},
		{gone(1, "a"), gone(1, "b"), gone(2, "a")},
		nil,
		{put(0, "", ""), put(255, "", "x")},
		{put(0, "", "again"), put(0, "\x00", "y")},
	} {
		fine(t, s.Write(l...))
		done = append(done, l...)
		has(t, s, done...)
		has(t, open(t, d.Copy()), done...)
		if s.Dead() || d.Waiting() != 0 {
			t.Error("the store is dead, or something waits")
		}
	}
}

func TestGet(t *testing.T) {
	s, _ := begun(t, []api.Op{put(1, "a", "1"), put(1, "ab", "2"), put(2, "a", "3"), put(2, "", "4"), put(3, "e", "")}, []api.Op{gone(1, "ab")})
	for _, c := range []struct {
		k    api.Key
		want string
		e    api.Errno
	}{
		{name(1, "a"), "1", api.OK}, {name(2, "a"), "3", api.OK}, {name(2, ""), "4", api.OK}, {api.Key{Bucket: 2}, "4", api.OK}, {name(3, "e"), "", api.OK},
		{name(1, "ab"), "", api.ErrNone}, {name(1, ""), "", api.ErrNone}, {name(0, "a"), "", api.ErrNone}, {name(3, "a"), "", api.ErrNone}, {name(1, "b"), "", api.ErrNone}, {name(1, "a\x00"), "", api.ErrNone}, {api.Key{}, "", api.ErrNone},
		{name(1, strings.Repeat("a", maxName)), "", api.ErrNone}, {name(1, strings.Repeat("a", maxName+1)), "", api.ErrArg}, {name(9, strings.Repeat("\x00", 70000)), "", api.ErrArg},
	} {
		if v, e := s.Get(c.k); string(v) != c.want || e != c.e || e != api.OK && v != nil {
			t.Errorf("%d, %.10q: %q, %v", c.k.Bucket, c.k.Name, v, e)
		}
	}
}

// A key whose bucket or name is another one is another key, though the two be alike as texts.
func TestBuckets(t *testing.T) {
	var l []api.Op
	for bucket := range 256 {
		l = append(l, put(byte(bucket), "", string([]byte{byte(bucket)})), put(byte(bucket), string([]byte{byte(bucket)}), "x"), put(byte(bucket), "a", string([]byte{255 - byte(bucket)})))
	}
	s, d := begun(t, l)
	has(t, s, l...)
	l = append(l, gone(7, ""), gone(8, "a"), put(9, "", "other"))
	fine(t, s.Write(l[len(l)-3:]...))
	has(t, s, l...)
	has(t, open(t, d), l...)
}

// Names that begin one another, and empty ones; they come by rising names, whatever the order in which they were put.
func TestAll(t *testing.T) {
	names := []string{"", "\x00", "\x00\x00", "\x01", "a", "a\x00", "aa", "aaa", "ab", "b", "\x80", "\xff", "\xff\x00", "\xff\xff"}
	for shift := range names {
		var l []api.Op
		for i := range names {
			n := names[(i*5+shift)%len(names)]
			l = append(l, put(4, n, "of "+n), put(byte(i), "other", "bucket"))
		}
		s, d := begun(t, l)
		has(t, s, l...)
		var got []string
		for n := range s.All(4) {
			got = append(got, string(n))
		}
		if want := append(names[:11:11], "other", "\xff"); slices.Index(got, "other") != 10 || len(got) != len(want)+2 {
			t.Errorf("%q", got)
		}
		fine(t, s.Turn())
		has(t, open(t, d), l...)
	}
}

func TestAllOfNothing(t *testing.T) {
	s, _ := begun(t, []api.Op{put(4, "a", "1"), put(5, "b", "2"), gone(5, "b")})
	for bucket := range 256 {
		if got := all(s, byte(bucket)); bucket != 4 && len(got) > 0 {
			t.Errorf("bucket %d: %q", bucket, got)
		}
	}
}

func abc(t *testing.T) *kv.Store {
	s, _ := begun(t, []api.Op{put(1, "b", "2"), put(1, "a", "1"), put(1, "c", "3")})
	return s
}

func TestAllLeftEarly(t *testing.T) {
	s := abc(t)
	for leave := range 4 {
		n := 0
		for range s.All(1) {
			n++
			if n > leave {
				break
			}
		}
		if n != min(leave+1, 3) {
			t.Errorf("%d: %d", leave, n)
		}
	}
	has(t, s, put(1, "a", "1"), put(1, "b", "2"), put(1, "c", "3"))
}

func TestAllTwiceAndWithinItself(t *testing.T) {
	every := abc(t).All(1)
	got := ""
	for range 2 {
		for a := range every {
			got += string(a) + ":"
			for b, v := range every {
				got += string(v)
				if string(a) == string(b) {
					break
				}
			}
		}
	}
	if got != "a:1b:12c:123a:1b:12c:123" {
		t.Error(got)
	}
}

// What is gone over is what there is when All is called: not when the going over begins, nor what is written meanwhile.
func TestAllAsItIsWhenCalled(t *testing.T) {
	s := abc(t)
	ahead := s.All(1)
	fine(t, s.Write(put(1, "a", "other"), gone(1, "b"), put(1, "d", "4")))
	for range 2 {
		got := ""
		for n, v := range ahead {
			got += string(n) + string(v)
			fine(t, s.Write(put(1, string(n)+"+", "more"), gone(1, "c")), s.Turn())
		}
		if got != "a1b2c3" {
			t.Error(got)
		}
	}
	has(t, s, put(1, "a", "other"), put(1, "d", "4"), put(1, "a+", "more"), put(1, "b+", "more"), put(1, "c+", "more"))
}

// What was handed in, and what is handed out or gone over, shares nothing with the store.
func TestStoreIsApart(t *testing.T) {
	d := disk.New()
	s := open(t, d)
	l := []api.Op{put(1, "ab", "12"), put(1, "cd", "34")}
	fine(t, s.Write(l...))
	for i := range l {
		clear(l[i].Key.Name)
		clear(l[i].Value)
	}
	clear(l)
	for range 2 {
		want := []api.Op{put(1, "ab", "12"), put(1, "cd", "34")}
		has(t, s, want...)
		v, _ := s.Get(name(1, "ab"))
		_ = append(v, "more"...)
		clear(v)
		has(t, s, want...)
		every := s.All(1)
		for n, v := range every {
			_, _ = append(n, "more"...), append(v, "more"...)
			clear(n)
			if string(v) != "12" && string(v) != "34" {
				t.Errorf("%q changed with its name", v)
			}
			clear(v)
		}
		has(t, s, want...)
		for n := range every {
			if len(n) != 2 || n[0] == 0 {
				t.Errorf("%q: two goings over share", n)
			}
		}
		fine(t, s.Turn())
		has(t, s, want...)
		s = open(t, d)
	}
}

// A store's keys are not its arguments': Write and Get leave what they are handed.
func TestArgumentsStay(t *testing.T) {
	s, _ := begun(t)
	op, drop := put(1, "ab", "12"), gone(1, "ab")
	fine(t, s.Write(op, drop, op))
	if !sameOp(op, put(1, "ab", "12")) || !sameOp(drop, gone(1, "ab")) {
		t.Error("a change is changed")
	}
	k := name(1, "ab")
	v, _ := s.Get(k)
	clear(v)
	if string(k.Name) != "ab" {
		t.Error("a key is changed")
	}
}

func TestOfNil(t *testing.T) {
	long := put(1, strings.Repeat("n", maxName+1), "")
	for _, s := range []*kv.Store{nil, {}, new(kv.Store)} {
		if v, e := s.Get(name(1, "a")); v != nil || e != api.ErrNil {
			t.Error(v, e)
		}
		if v, e := s.Get(long.Key); v != nil || e != api.ErrNil {
			t.Error(v, e)
		}
		for _, l := range [][]api.Op{nil, {put(1, "a", "1")}, {long}, make([]api.Op, maxChanges+1)} {
			if e := s.Write(l...); e != api.ErrNil {
				t.Error(e)
			}
		}
		if e := s.Turn(); e != api.ErrNil {
			t.Error(e)
		}
		if s.Len() != 0 || s.Size() != 0 || s.Turns() != 0 || s.Dead() {
			t.Error(s.Len(), s.Size(), s.Turns(), s.Dead())
		}
		every := s.All(1)
		for range 2 {
			for range every {
				t.Error("a key of nil")
			}
		}
	}
	for _, d := range []*disk.Disk{nil, {}, new(disk.Disk)} {
		if s, e := kv.Open(d); s != nil || e != api.ErrNil {
			t.Error(e)
		}
	}
}

// unlike are batches that Write refuses, and why.
func unlike() map[string][]api.Op {
	long := strings.Repeat("x", maxValue+1)
	drop := gone(1, "a")
	drop.Value = []byte{0}
	return map[string][]api.Op{
		"a long name": {put(1, long[:maxName+1], "")}, "a long name that goes": {gone(1, long[:maxName+1])}, "a long value": {put(1, "a", long)},
		"a drop with a value": {drop}, "many": make([]api.Op, maxChanges+1),
	}
}

func TestWriteOfWhatMayNotBe(t *testing.T) {
	s, d := begun(t, []api.Op{put(1, "a", "1")})
	ahead := d.Copy()
	for why, bad := range unlike() {
		for _, l := range [][]api.Op{bad, append([]api.Op{put(1, "b", "2"), gone(1, "a")}, bad...), append(bad[:len(bad):len(bad)], put(1, "b", "2"))} {
			if e := s.Write(l...); e != api.ErrArg || s.Dead() {
				t.Errorf("%s: %v", why, e)
			}
			has(t, s, put(1, "a", "1"))
			if !d.Same(ahead) || d.Waiting() != 0 {
				t.Fatal("the disk is changed")
			}
		}
	}
	long := strings.Repeat("x", maxValue)
	l := []api.Op{put(1, long[:maxName], long), gone(2, long[:maxName])}
	fine(t, s.Write(l...))
	has(t, s, append(l, put(1, "a", "1"))...)
}

// 65535 changes go in; more keys than these have no head.
func TestManyKeys(t *testing.T) {
	s, d := begun(t)
	l := make([]api.Op, maxChanges)
	for i := range l {
		l[i] = put(byte(i>>16), string([]byte{byte(i), byte(i >> 8)}), "")
	}
	fine(t, s.Write(l...), s.Turn())
	if s.Len() != maxChanges || s.Turns() != 2 {
		t.Fatal(s.Len(), s.Turns())
	}
	has(t, open(t, d), l...)
	fine(t, s.Write(put(1, "one more", "")))
	ahead := d.Copy()
	if e := s.Turn(); e != api.ErrArg || s.Turns() != 2 || s.Dead() || !d.Same(ahead) {
		t.Fatal(e, s.Turns(), s.Dead())
	}
	if s = open(t, d); s.Len() != maxChanges+1 || s.Turns() != 2 {
		t.Fatal(s.Len(), s.Turns())
	}
	fine(t, s.Write(gone(1, "one more")), s.Turn())
	has(t, s, l...)
	has(t, open(t, d), l...)
}
