import PyProof.Rows.All
import KE.OsGo
import KE.OsArgs
import PySem.Challenge.RW_smallrows_s04_squeeze
set_option Elab.async false
set_option maxRecDepth 100000
namespace My
open Sf26Neutral
theorem asked_one {c : Call} (h : asked [c] = true) : asked1 c = true := by
  simp only [asked, List.all_cons, List.all_nil, Bool.and_true, Bool.and_eq_true] at h
  exact h.1.2
theorem size_iff {n : Int} : Sf26.size n = true ↔ 0 ≤ n ∧ n ≤ 1048576 := by
  unfold Sf26.size Sf26.MOST
  rw [Bool.and_eq_true, decide_eq_true_eq, decide_eq_true_eq]
  exact Iff.rfl
theorem from_iff {z a b : Int} : Sf26.from_ z a b = true ↔ a ≤ z ∧ z ≤ b := by
  unfold Sf26.from_
  rw [Bool.and_eq_true, decide_eq_true_eq, decide_eq_true_eq]
theorem getD_of {P : Int → Prop} {l : List Int} (h : ∀ v ∈ l, P v) (i : Nat) (hi : i < l.length) : P (l.getD i 0) := by
  have e : l.getD i 0 = l[i] := by simp [List.getD, hi]
  rw [e]
  exact h _ (List.getElem_mem hi)
theorem getD_all {P : Int → Prop} {l : List Int} (h : ∀ v ∈ l, P v) (h0 : P 0) (i : Nat) : P (l.getD i 0) := by
  by_cases hi : i < l.length
  · exact getD_of h i hi
  · have e : l.getD i 0 = 0 := by simp [List.getD, hi]
    rw [e]; exact h0
theorem zip_range {β : Type} (x y : List Int) (g : Nat → Nat → β) (m : Nat) (hx : x.length = m) (hy : y.length = m) :
    ((natsOf x).zip (natsOf y)).map (fun p => g p.1 p.2) = (List.range m).map fun i => g (x.getD i 0).toNat (y.getD i 0).toNat := by
  apply List.ext_getElem
  · simp [natsOf, hx, hy]
  · intro i h1 h2
    have hi : i < m := by simpa using h2
    have hxi : i < x.length := by omega
    have hyi : i < y.length := by omega
    simp [natsOf, List.getD, hxi, hyi]
theorem nats_range {β : Type} (x : List Int) (g : Nat → β) (m : Nat) (hx : x.length = m) :
    (natsOf x).map g = (List.range m).map fun i => g (x.getD i 0).toNat := by
  apply List.ext_getElem
  · simp [natsOf, hx]
  · intro i h1 h2
    have hi : i < m := by simpa using h2
    have hxi : i < x.length := by omega
    simp [natsOf, List.getD, hxi]
structure SqAsked (n b w : Int) (x : List Int) : Prop where
  ok : 0 ≤ n → n ≤ 1048576 → (b = 1 ∨ b = 2 ∨ b = 4) → 0 ≤ w → w ≤ 2 → (x.length : Int) = n
  px : ∀ v ∈ x, 0 ≤ v ∧ v ≤ 18446744073709551615
theorem squeeze_asked {n b w : Int} {x : List Int} (h : PySf26.squeeze_asked n b w x = true) : SqAsked n b w x := by
  have h1 := asked_one h
  simp only [asked1, Bool.and_eq_true, beq_iff_eq, List.all_eq_true, natural, decide_eq_true_eq, u64, within] at h1
  obtain ⟨_, ⟨l1, hx⟩⟩ := h1
  refine ⟨fun a b c d e => ?_, hx⟩
  rw [if_pos ⟨⟨a, b⟩, by simpa using c, d, e⟩] at l1
  exact l1
theorem squeeze_no {n b w : Int} {x : List Int} (h : ¬ (0 ≤ n ∧ n ≤ 1048576 ∧ (b = 1 ∨ b = 2 ∨ b = 4) ∧ 0 ≤ w ∧ w ≤ 2)) : PySf26.squeeze n b w x = [-1] := by
  have e : PySf26.squeeze n b w x = listOf (Sf26.spec (.squeeze n b w (natsOf x))) := rfl
  rw [e]
  unfold Sf26.spec
  rw [if_neg]
  · rfl
  · intro r
    apply h
    simp only [Sf26.Call.right, size_iff, from_iff, Sf26.isOne, Bool.and_eq_true] at r
    exact ⟨r.1.1, r.1.2, by simpa using r.2.1, r.2.2⟩
theorem squeeze_yes {n b w : Int} {x : List Int} (h : 0 ≤ n ∧ n ≤ 1048576 ∧ (b = 1 ∨ b = 2 ∨ b = 4) ∧ 0 ≤ w ∧ w ≤ 2) : PySf26.squeeze n b w x = 0 :: ((natsOf x).map (Sf26.squeeze (8 * b.toNat) w.toNat)).map (fun (k : Nat) => (k : Int)) := by
  have e : PySf26.squeeze n b w x = listOf (Sf26.spec (.squeeze n b w (natsOf x))) := rfl
  rw [e]
  unfold Sf26.spec
  rw [if_pos]
  · rfl
  · simp only [Sf26.Call.right, size_iff, from_iff, Sf26.isOne, Bool.and_eq_true]
    exact ⟨⟨h.1, h.2.1⟩, by simpa using h.2.2.1, h.2.2.2⟩
/-- what stands behind the 0 after k turns, by places -/
structure Told (F : Nat → Int) (k : Nat) (a : List Int) : Prop where
  eq : a = 0 :: (List.range k).map F
theorem told_start {F : Nat → Int} : [(0 : Int)].length = ([] : List Int).length + 1 ∧ Told F ([] : List Int).length [0] := ⟨rfl, ⟨rfl⟩⟩
theorem told_turn {F : Nat → Int} {a pre : List Int} {k v : Int} (h : Told F pre.length a) (hl : a.length = pre.length + 1) (hv : v = F pre.length) :
    (a ++ [v]).length = (pre ++ [k]).length + 1 ∧ Told F (pre ++ [k]).length (a ++ [v]) := by
  have l : (pre ++ [k]).length = pre.length + 1 := by simp
  rw [l]
  refine ⟨by simp [hl], ⟨?_⟩⟩
  rw [List.range_succ, List.map_append, h.eq, hv]
  rfl
@[irreducible] def sqF (bits way : Nat) (x : List Int) (i : Nat) : Int := ((Sf26.squeeze bits way (x.getD i 0).toNat : Nat) : Int)
@[irreducible] def readS (a span : Int) : Int := if a < Int.fdiv span 2 then a else a - span
@[irreducible] def tellS (a span : Int) : Int := if a < 0 then a + span else a
abbrev sqS (a span : Int) : Int :=
  tellS (if Int.fdiv span 2 - 1 < (if 0 - Int.fdiv span 2 > readS a 18446744073709551616 then 0 - Int.fdiv span 2 else readS a 18446744073709551616) then Int.fdiv span 2 - 1
    else (if 0 - Int.fdiv span 2 > readS a 18446744073709551616 then 0 - Int.fdiv span 2 else readS a 18446744073709551616)) span
abbrev sqM (a span : Int) : Int := if span - 1 < a then span - 1 else a
theorem squeeze_end {n b w : Int} {x a : List Int} (q : SqAsked n b w x) (h0 : 0 ≤ n) (h1 : n ≤ 1048576) (h2 : b = 1 ∨ b = 2 ∨ b = 4) (h3 : 0 ≤ w) (h4 : w ≤ 2) {m : Nat} (hm : (m : Int) = n) (t : Told (sqF (8 * b.toNat) w.toNat x) m a) : a = PySf26.squeeze n b w x := by
  have lx := q.ok h0 h1 h2 h3 h4
  rw [t.eq, squeeze_yes ⟨h0, h1, h2, h3, h4⟩, nats_range x (Sf26.squeeze (8 * b.toNat) w.toNat) m (by omega), List.map_map]
  congr 1
  apply List.map_congr_left
  intro i _
  unfold sqF
  rfl
theorem mod_val (bits : Nat) {a : Int} (h0 : 0 ≤ a) : Int.fmod a (2 ^ bits) = ((Sf26.squeeze bits 0 a.toNat : Nat) : Int) := by
  have p : (2 : Int) ^ bits = ((2 ^ bits : Nat) : Int) := by rw [Int.natCast_pow]; rfl
  have ea : a = ((a.toNat : Nat) : Int) := by omega
  rw [p, Int.fmod_eq_emod_of_nonneg _ (Int.natCast_nonneg _)]
  show _ = ((a.toNat % 2 ^ bits : Nat) : Int)
  conv => lhs; rw [ea]
  rw [← Int.natCast_emod]
theorem min_val (bits : Nat) {a : Int} (h0 : 0 ≤ a) : sqM a (2 ^ bits) = ((Sf26.squeeze bits 2 a.toNat : Nat) : Int) := by
  have p : (2 : Int) ^ bits = ((2 ^ bits : Nat) : Int) := by rw [Int.natCast_pow]; rfl
  have hp := Nat.two_pow_pos bits
  show _ = ((min a.toNat (2 ^ bits - 1) : Nat) : Int)
  unfold sqM
  rw [p]
  generalize 2 ^ bits = w at *
  omega
theorem sign_val8 {a : Int} (h0 : 0 ≤ a) (h1 : a ≤ 18446744073709551615) : sqS a 256 = ((Sf26.squeeze 8 1 a.toNat : Nat) : Int) := by
  have f : Int.fdiv 256 2 = 128 := by decide
  have f2 : Int.fdiv 18446744073709551616 2 = 9223372036854775808 := by decide
  show _ = ((Sf26.bitsOf 8 (Sf26.held (-(2 ^ (8 - 1))) (2 ^ (8 - 1) - 1) (Sf26.signed 64 a.toNat)) : Nat) : Int)
  unfold sqS Sf26.held Sf26.bitsOf Sf26.signed readS tellS
  rw [f, f2]
  have p1 : (2 : Int) ^ 8 = 256 := by decide
  have p2 : (2 : Int) ^ (8 - 1) = 128 := by decide
  have p3 : (2 : Nat) ^ (64 - 1) = 9223372036854775808 := by decide
  have p4 : (2 : Int) ^ 64 = 18446744073709551616 := by decide
  simp only [p1, p2, p3, p4]
  omega
theorem sign_val16 {a : Int} (h0 : 0 ≤ a) (h1 : a ≤ 18446744073709551615) : sqS a 65536 = ((Sf26.squeeze 16 1 a.toNat : Nat) : Int) := by
  have f : Int.fdiv 65536 2 = 32768 := by decide
  have f2 : Int.fdiv 18446744073709551616 2 = 9223372036854775808 := by decide
  show _ = ((Sf26.bitsOf 16 (Sf26.held (-(2 ^ (16 - 1))) (2 ^ (16 - 1) - 1) (Sf26.signed 64 a.toNat)) : Nat) : Int)
  unfold sqS Sf26.held Sf26.bitsOf Sf26.signed readS tellS
  rw [f, f2]
  have p1 : (2 : Int) ^ 16 = 65536 := by decide
  have p2 : (2 : Int) ^ (16 - 1) = 32768 := by decide
  have p3 : (2 : Nat) ^ (64 - 1) = 9223372036854775808 := by decide
  have p4 : (2 : Int) ^ 64 = 18446744073709551616 := by decide
  simp only [p1, p2, p3, p4]
  omega
theorem sign_val32 {a : Int} (h0 : 0 ≤ a) (h1 : a ≤ 18446744073709551615) : sqS a 4294967296 = ((Sf26.squeeze 32 1 a.toNat : Nat) : Int) := by
  have f : Int.fdiv 4294967296 2 = 2147483648 := by decide
  have f2 : Int.fdiv 18446744073709551616 2 = 9223372036854775808 := by decide
  show _ = ((Sf26.bitsOf 32 (Sf26.held (-(2 ^ (32 - 1))) (2 ^ (32 - 1) - 1) (Sf26.signed 64 a.toNat)) : Nat) : Int)
  unfold sqS Sf26.held Sf26.bitsOf Sf26.signed readS tellS
  rw [f, f2]
  have p1 : (2 : Int) ^ 32 = 4294967296 := by decide
  have p2 : (2 : Int) ^ (32 - 1) = 2147483648 := by decide
  have p3 : (2 : Nat) ^ (64 - 1) = 9223372036854775808 := by decide
  have p4 : (2 : Int) ^ 64 = 18446744073709551616 := by decide
  simp only [p1, p2, p3, p4]
  omega
theorem val10 {n k : Int} {x : List Int} {m : Nat} (q : SqAsked n 1 0 x) (hk : k = 0 + (m : Int)) (hx : m < x.length) :
    Int.fmod (x.getD k.toNat 0) 256 = sqF (8 * (1 : Int).toNat) (0 : Int).toNat x m := by
  have e : k.toNat = m := by omega
  rw [e]
  have p1 := getD_of q.px m hx
  unfold sqF
  exact mod_val 8 p1.1
theorem val11 {n k : Int} {x : List Int} {m : Nat} (q : SqAsked n 1 1 x) (hk : k = 0 + (m : Int)) (hx : m < x.length) :
    sqS (x.getD k.toNat 0) 256 = sqF (8 * (1 : Int).toNat) (1 : Int).toNat x m := by
  have e : k.toNat = m := by omega
  rw [e]
  have p1 := getD_of q.px m hx
  unfold sqF
  exact sign_val8 p1.1 p1.2
theorem val12 {n k : Int} {x : List Int} {m : Nat} (q : SqAsked n 1 2 x) (hk : k = 0 + (m : Int)) (hx : m < x.length) :
    sqM (x.getD k.toNat 0) 256 = sqF (8 * (1 : Int).toNat) (2 : Int).toNat x m := by
  have e : k.toNat = m := by omega
  rw [e]
  have p1 := getD_of q.px m hx
  unfold sqF
  exact min_val 8 p1.1
theorem val20 {n k : Int} {x : List Int} {m : Nat} (q : SqAsked n 2 0 x) (hk : k = 0 + (m : Int)) (hx : m < x.length) :
    Int.fmod (x.getD k.toNat 0) 65536 = sqF (8 * (2 : Int).toNat) (0 : Int).toNat x m := by
  have e : k.toNat = m := by omega
  rw [e]
  have p1 := getD_of q.px m hx
  unfold sqF
  exact mod_val 16 p1.1
theorem val21 {n k : Int} {x : List Int} {m : Nat} (q : SqAsked n 2 1 x) (hk : k = 0 + (m : Int)) (hx : m < x.length) :
    sqS (x.getD k.toNat 0) 65536 = sqF (8 * (2 : Int).toNat) (1 : Int).toNat x m := by
  have e : k.toNat = m := by omega
  rw [e]
  have p1 := getD_of q.px m hx
  unfold sqF
  exact sign_val16 p1.1 p1.2
theorem val22 {n k : Int} {x : List Int} {m : Nat} (q : SqAsked n 2 2 x) (hk : k = 0 + (m : Int)) (hx : m < x.length) :
    sqM (x.getD k.toNat 0) 65536 = sqF (8 * (2 : Int).toNat) (2 : Int).toNat x m := by
  have e : k.toNat = m := by omega
  rw [e]
  have p1 := getD_of q.px m hx
  unfold sqF
  exact min_val 16 p1.1
theorem val40 {n k : Int} {x : List Int} {m : Nat} (q : SqAsked n 4 0 x) (hk : k = 0 + (m : Int)) (hx : m < x.length) :
    Int.fmod (x.getD k.toNat 0) 4294967296 = sqF (8 * (4 : Int).toNat) (0 : Int).toNat x m := by
  have e : k.toNat = m := by omega
  rw [e]
  have p1 := getD_of q.px m hx
  unfold sqF
  exact mod_val 32 p1.1
theorem val41 {n k : Int} {x : List Int} {m : Nat} (q : SqAsked n 4 1 x) (hk : k = 0 + (m : Int)) (hx : m < x.length) :
    sqS (x.getD k.toNat 0) 4294967296 = sqF (8 * (4 : Int).toNat) (1 : Int).toNat x m := by
  have e : k.toNat = m := by omega
  rw [e]
  have p1 := getD_of q.px m hx
  unfold sqF
  exact sign_val32 p1.1 p1.2
theorem val42 {n k : Int} {x : List Int} {m : Nat} (q : SqAsked n 4 2 x) (hk : k = 0 + (m : Int)) (hx : m < x.length) :
    sqM (x.getD k.toNat 0) 4294967296 = sqF (8 * (4 : Int).toNat) (2 : Int).toNat x m := by
  have e : k.toNat = m := by omega
  rw [e]
  have p1 := getD_of q.px m hx
  unfold sqF
  exact min_val 32 p1.1
end My
open PySem PySem.W
namespace My
theorem said : PySem.Challenge.rw_smallrows_s04_squeeze.wellSaid = true := by decide +kernel
abbrev Req (n : Int) (b : Int) (w : Int) (x : List Int) : Prop := PySem.Challenge.rw_smallrows_s04_squeeze.pre [WData.int n, WData.int b, WData.int w, ofPy (PyData.list (x.map PyData.int))] = true
theorem opened {n : Int} {b : Int} {w : Int} {x : List Int} (h : Req n b w x) : SqAsked n b w x := by
  obtain ⟨⟨n', b', w', x', u⟩, wi, q, e⟩ := os_pre said h
  have e1 := os_j_int (List.cons.inj e).1
  have e2 := os_j_int (List.cons.inj (List.cons.inj e).2).1
  have e3 := os_j_int (List.cons.inj (List.cons.inj (List.cons.inj e).2).2).1
  have e4 := os_j_ints (List.cons.inj (List.cons.inj (List.cons.inj (List.cons.inj e).2).2).2).1
  subst e1 e2 e3 e4
  exact squeeze_asked q
theorem shut {n : Int} {b : Int} {w : Int} {x : List Int} {a : List Int} (h : Req n b w x) (ea : a = PySf26.squeeze n b w x) :
    PySem.Challenge.rw_smallrows_s04_squeeze.post [WData.int n, WData.int b, WData.int w, ofPy (PyData.list (x.map PyData.int))] (ofPy (PyData.list (a.map PyData.int))) = true := by
  obtain ⟨⟨n', b', w', x', u⟩, wi, q, e⟩ := os_pre said h
  have e1 := os_j_int (List.cons.inj e).1
  have e2 := os_j_int (List.cons.inj (List.cons.inj e).2).1
  have e3 := os_j_int (List.cons.inj (List.cons.inj (List.cons.inj e).2).2).1
  have e4 := os_j_ints (List.cons.inj (List.cons.inj (List.cons.inj (List.cons.inj e).2).2).2).1
  subst e1 e2 e3 e4
  rw [e]
  refine os_shut said wi ?_
  subst ea
  exact os_list rfl
abbrev argF {n b w : Int} {x : List Int} (_ : Req n b w x) : Nat → Int := sqF (8 * b.toNat) w.toNat x
inductive Cases (n b w : Int) (x : List Int) : Prop where
  | low (h : n < 0)
  | high (h : 1048576 < n)
  | other (h0 : 0 ≤ n) (h1 : n ≤ 1048576) (h2 : b ≠ 1) (h3 : b ≠ 2) (h4 : b ≠ 4)
  | l1 (h0 : 0 ≤ n) (h1 : n ≤ 1048576) (h2 : b = 1) (h3 : w < 0)
  | u1 (h0 : 0 ≤ n) (h1 : n ≤ 1048576) (h2 : b = 1) (h3 : 2 < w)
  | c10 (h0 : 0 ≤ n) (h1 : n ≤ 1048576) (h2 : b = 1) (h3 : w = 0) (hx : (x.length : Int) = n)
  | c11 (h0 : 0 ≤ n) (h1 : n ≤ 1048576) (h2 : b = 1) (h3 : w = 1) (hx : (x.length : Int) = n)
  | c12 (h0 : 0 ≤ n) (h1 : n ≤ 1048576) (h2 : b = 1) (h3 : w = 2) (hx : (x.length : Int) = n)
  | l2 (h0 : 0 ≤ n) (h1 : n ≤ 1048576) (h2 : b = 2) (h3 : w < 0)
  | u2 (h0 : 0 ≤ n) (h1 : n ≤ 1048576) (h2 : b = 2) (h3 : 2 < w)
  | c20 (h0 : 0 ≤ n) (h1 : n ≤ 1048576) (h2 : b = 2) (h3 : w = 0) (hx : (x.length : Int) = n)
  | c21 (h0 : 0 ≤ n) (h1 : n ≤ 1048576) (h2 : b = 2) (h3 : w = 1) (hx : (x.length : Int) = n)
  | c22 (h0 : 0 ≤ n) (h1 : n ≤ 1048576) (h2 : b = 2) (h3 : w = 2) (hx : (x.length : Int) = n)
  | l4 (h0 : 0 ≤ n) (h1 : n ≤ 1048576) (h2 : b = 4) (h3 : w < 0)
  | u4 (h0 : 0 ≤ n) (h1 : n ≤ 1048576) (h2 : b = 4) (h3 : 2 < w)
  | c40 (h0 : 0 ≤ n) (h1 : n ≤ 1048576) (h2 : b = 4) (h3 : w = 0) (hx : (x.length : Int) = n)
  | c41 (h0 : 0 ≤ n) (h1 : n ≤ 1048576) (h2 : b = 4) (h3 : w = 1) (hx : (x.length : Int) = n)
  | c42 (h0 : 0 ≤ n) (h1 : n ≤ 1048576) (h2 : b = 4) (h3 : w = 2) (hx : (x.length : Int) = n)
theorem cases {n b w : Int} {x : List Int} (h : Req n b w x) : Cases n b w x := by
  have q := opened h
  by_cases h0 : 0 ≤ n
  · by_cases h1 : n ≤ 1048576
    · by_cases h2 : b = 1
      · by_cases a0 : w < 0
        · exact .l1 h0 h1 h2 a0
        · by_cases a1 : 2 < w
          · exact .u1 h0 h1 h2 a1
          · have hx := q.ok h0 h1 (by omega) (by omega) (by omega)
            by_cases a2 : w = 0
            · exact .c10 h0 h1 h2 a2 hx
            · by_cases a3 : w = 1
              · exact .c11 h0 h1 h2 a3 hx
              · exact .c12 h0 h1 h2 (by omega) hx
      · by_cases h2' : b = 2
        · have h2 := h2'
          by_cases a0 : w < 0
          · exact .l2 h0 h1 h2 a0
          · by_cases a1 : 2 < w
            · exact .u2 h0 h1 h2 a1
            · have hx := q.ok h0 h1 (by omega) (by omega) (by omega)
              by_cases a2 : w = 0
              · exact .c20 h0 h1 h2 a2 hx
              · by_cases a3 : w = 1
                · exact .c21 h0 h1 h2 a3 hx
                · exact .c22 h0 h1 h2 (by omega) hx
        · by_cases h2'' : b = 4
          · have h2 := h2''
            by_cases a0 : w < 0
            · exact .l4 h0 h1 h2 a0
            · by_cases a1 : 2 < w
              · exact .u4 h0 h1 h2 a1
              · have hx := q.ok h0 h1 (by omega) (by omega) (by omega)
                by_cases a2 : w = 0
                · exact .c40 h0 h1 h2 a2 hx
                · by_cases a3 : w = 1
                  · exact .c41 h0 h1 h2 a3 hx
                  · exact .c42 h0 h1 h2 (by omega) hx
          · exact .other h0 h1 h2 h2' h2''
    · exact .high (by omega)
  · exact .low (by omega)
theorem no_way3 {a p q r : Int} (h : (if (if a = p then a == p else a == q) = true then if a = p then a == p else a == q else if (if a = p then a == p else a == q) = false then a == r else false) = true) (h1 : a ≠ p) (h2 : a ≠ q) (h3 : a ≠ r) : False := by
  have e1 : (a == q) = false := by simpa using h2
  have e2 : (a == r) = false := by simpa using h3
  rw [if_neg h1, e1, e2] at h
  simp at h
end My
open PyProof.Rows in
local macro_rules | `(tactic| walk_at "call builtin:list.append") => `(tactic| (k_here; (with_reducible show wpAny _ _ (call (Value.builtin _) [Value.ref _, _]) _ _ _); k_dflt (refine' append_K ?k1 ?k2 ?k3 ?_ ?z; (case k1 => k_asm); (case k2 => k_asm); (case k3 => k_upd); (case z => (simp only [List.size_toArray, PySem.sizeLine_eq]; omega)); k_whole); intro h' F' N'; (try k_sweep)))
local macro_rules | `(tactic| walk_at "call type:range") => `(tactic| (k_here; k_dflt (exfalso; omega)))
local macro_rules | `(tactic| walk_at "call ref") => `(tactic| (k_here; k_dflt (exfalso; exact My.no_way3 (by assumption) (by assumption) (by assumption) (by assumption))))
local macro_rules | `(tactic| walk_at "call type:range") => `(tactic| (k_here; k_dflt (exfalso; exact My.no_way3 (by assumption) (by assumption) (by assumption) (by assumption))))
local macro_rules | `(tactic| walk_at "storeName") => `(tactic| (k_here; k_dflt (exfalso; exact My.no_way3 (by assumption) (by assumption) (by assumption) (by assumption))))
open PyProof.Rows in
local macro_rules | `(tactic| walk_at "call builtin:max") => `(tactic| (k_here; (with_reducible show wpAny _ _ (call (Value.builtin "max") [Value.int _ _, Value.int _ _]) _ _ _); k_dflt (refine' max_two_N ?k0 ?k1 ?k2 ?_; (case k0 => with_unfolding_all rfl); (case k1 => k_asm); (case k2 => k_asm); k_whole); intro h' tk' F' N'; (try k_sweep)))
open PyProof.Rows in
local macro_rules | `(tactic| walk_at "call builtin:min") => `(tactic| (k_here; (with_reducible show wpAny _ _ (call (Value.builtin "min") [Value.int _ _, Value.int _ _]) _ _ _); k_dflt (refine' min_two_N ?k0 ?k1 ?k2 ?_; (case k0 => with_unfolding_all rfl); (case k1 => k_asm); (case k2 => k_asm); k_whole); intro h' tk' F' N'; (try k_sweep)))
set_option maxRecDepth 100000 in
set_option maxHeartbeats 8000000 in
theorem PySem.Challenge.cw_smallrows_s04_squeeze_holds : PySem.Challenge.rw_smallrows_s04_squeeze.Holds := by
  k_with "call ref" => k_call_by "read_signed" My.readS
  k_with "call ref" => k_call_by "tell_signed" My.tellS
  k_with "tree" => first
    | (simp only [My.readS]; done)
    | simp only [My.readS]
    | simp only [My.tellS]
  k_with "state" => first
    | exact My.told_start
    | exact My.told_turn (by assumption) (by assumption) (My.val10 (My.opened hc0) (by assumption) (by omega))
    | exact My.told_turn (by assumption) (by assumption) (My.val11 (My.opened hc0) (by assumption) (by omega))
    | exact My.told_turn (by assumption) (by assumption) (My.val12 (My.opened hc0) (by assumption) (by omega))
    | exact My.told_turn (by assumption) (by assumption) (My.val20 (My.opened hc0) (by assumption) (by omega))
    | exact My.told_turn (by assumption) (by assumption) (My.val21 (My.opened hc0) (by assumption) (by omega))
    | exact My.told_turn (by assumption) (by assumption) (My.val22 (My.opened hc0) (by assumption) (by omega))
    | exact My.told_turn (by assumption) (by assumption) (My.val40 (My.opened hc0) (by assumption) (by omega))
    | exact My.told_turn (by assumption) (by assumption) (My.val41 (My.opened hc0) (by assumption) (by omega))
    | exact My.told_turn (by assumption) (by assumption) (My.val42 (My.opened hc0) (by assumption) (by omega))
  k_with "pyIter ref" => k_state (fun pre answer => answer.length = pre.length + 1 ∧ My.Told (My.argF hc0) pre.length answer) "answer"
  w_on; k_headS
  case hw => exact ⟨[.int 0, .int 1, .int 0, .list []], by decide +kernel, by decide +kernel⟩
  w_strict (
    k_goS0
    rename PySem.Challenge.rw_smallrows_s04_squeeze.pre _ = true => hc0
    cases My.cases hc0 with
    | low h => ((all_goals try k_fold); k_steps; (all_goals (try (w_end; sp_is; wrow_close))); all_goals (sp_left; exact My.shut (a := [-1]) hpre (My.squeeze_no (by omega)).symm))
    | high h => ((all_goals try k_fold); k_steps; (all_goals (try (w_end; sp_is; wrow_close))); all_goals (sp_left; exact My.shut (a := [-1]) hpre (My.squeeze_no (by omega)).symm))
    | other h0 h1 h2 h3 h4 => ((all_goals try k_fold); k_steps; (all_goals (try (w_end; sp_is; wrow_close))); all_goals (sp_left; exact My.shut (a := [-1]) hpre (My.squeeze_no (by omega)).symm))
    | l1 h0 h1 h2 h3 => (subst h2; (all_goals try k_fold); k_steps; (all_goals (try (w_end; sp_is; wrow_close))); all_goals (sp_left; exact My.shut (a := [-1]) hpre (My.squeeze_no (by omega)).symm))
    | u1 h0 h1 h2 h3 => (subst h2; (all_goals try k_fold); k_steps; (all_goals (try (w_end; sp_is; wrow_close))); all_goals (sp_left; exact My.shut (a := [-1]) hpre (My.squeeze_no (by omega)).symm))
    | c10 h0 h1 h2 h3 hx => (subst h2 h3; (all_goals try k_fold); k_steps; (all_goals (try (w_end; sp_is; wrow_close))); all_goals (sp_left; refine My.shut hpre (My.squeeze_end (My.opened hpre) h0 h1 (by omega) (by omega) (by omega) ?_ (by assumption)); simp only [rangeKs_length]; omega))
    | c11 h0 h1 h2 h3 hx => (subst h2 h3; (all_goals try k_fold); k_steps; (all_goals (try (w_end; sp_is; wrow_close))); all_goals (sp_left; refine My.shut hpre (My.squeeze_end (My.opened hpre) h0 h1 (by omega) (by omega) (by omega) ?_ (by assumption)); simp only [rangeKs_length]; omega))
    | c12 h0 h1 h2 h3 hx => (subst h2 h3; (all_goals try k_fold); k_steps; (all_goals (try (w_end; sp_is; wrow_close))); all_goals (sp_left; refine My.shut hpre (My.squeeze_end (My.opened hpre) h0 h1 (by omega) (by omega) (by omega) ?_ (by assumption)); simp only [rangeKs_length]; omega))
    | l2 h0 h1 h2 h3 => (subst h2; (all_goals try k_fold); k_steps; (all_goals (try (w_end; sp_is; wrow_close))); all_goals (sp_left; exact My.shut (a := [-1]) hpre (My.squeeze_no (by omega)).symm))
    | u2 h0 h1 h2 h3 => (subst h2; (all_goals try k_fold); k_steps; (all_goals (try (w_end; sp_is; wrow_close))); all_goals (sp_left; exact My.shut (a := [-1]) hpre (My.squeeze_no (by omega)).symm))
    | c20 h0 h1 h2 h3 hx => (subst h2 h3; (all_goals try k_fold); k_steps; (all_goals (try (w_end; sp_is; wrow_close))); all_goals (sp_left; refine My.shut hpre (My.squeeze_end (My.opened hpre) h0 h1 (by omega) (by omega) (by omega) ?_ (by assumption)); simp only [rangeKs_length]; omega))
    | c21 h0 h1 h2 h3 hx => (subst h2 h3; (all_goals try k_fold); k_steps; (all_goals (try (w_end; sp_is; wrow_close))); all_goals (sp_left; refine My.shut hpre (My.squeeze_end (My.opened hpre) h0 h1 (by omega) (by omega) (by omega) ?_ (by assumption)); simp only [rangeKs_length]; omega))
    | c22 h0 h1 h2 h3 hx => (subst h2 h3; (all_goals try k_fold); k_steps; (all_goals (try (w_end; sp_is; wrow_close))); all_goals (sp_left; refine My.shut hpre (My.squeeze_end (My.opened hpre) h0 h1 (by omega) (by omega) (by omega) ?_ (by assumption)); simp only [rangeKs_length]; omega))
    | l4 h0 h1 h2 h3 => (subst h2; (all_goals try k_fold); k_steps; (all_goals (try (w_end; sp_is; wrow_close))); all_goals (sp_left; exact My.shut (a := [-1]) hpre (My.squeeze_no (by omega)).symm))
    | u4 h0 h1 h2 h3 => (subst h2; (all_goals try k_fold); k_steps; (all_goals (try (w_end; sp_is; wrow_close))); all_goals (sp_left; exact My.shut (a := [-1]) hpre (My.squeeze_no (by omega)).symm))
    | c40 h0 h1 h2 h3 hx => (subst h2 h3; (all_goals try k_fold); k_steps; (all_goals (try (w_end; sp_is; wrow_close))); all_goals (sp_left; refine My.shut hpre (My.squeeze_end (My.opened hpre) h0 h1 (by omega) (by omega) (by omega) ?_ (by assumption)); simp only [rangeKs_length]; omega))
    | c41 h0 h1 h2 h3 hx => (subst h2 h3; (all_goals try k_fold); k_steps; (all_goals (try (w_end; sp_is; wrow_close))); all_goals (sp_left; refine My.shut hpre (My.squeeze_end (My.opened hpre) h0 h1 (by omega) (by omega) (by omega) ?_ (by assumption)); simp only [rangeKs_length]; omega))
    | c42 h0 h1 h2 h3 hx => (subst h2 h3; (all_goals try k_fold); k_steps; (all_goals (try (w_end; sp_is; wrow_close))); all_goals (sp_left; refine My.shut hpre (My.squeeze_end (My.opened hpre) h0 h1 (by omega) (by omega) (by omega) ?_ (by assumption)); simp only [rangeKs_length]; omega)))
#print axioms PySem.Challenge.cw_smallrows_s04_squeeze_holds
