import PyProof.Rows.All
import KE.OsGo
import KE.OsArgs
import PySem.Challenge.RW_smallrows_s02_less
set_option Elab.async false
set_option maxRecDepth 100000
namespace My
open Sf26Neutral
theorem asked_one {c : Call} (h : asked [c] = true) : asked1 c = true := by
  simp only [asked, List.all_cons, List.all_nil, Bool.and_true, Bool.and_eq_true] at h
  exact h.1.2
theorem size_iff {n : Int} : Sf26.size n = true ↔ 0 ≤ n ∧ n ≤ 1048576 := by
  unfold Sf26.size Sf26.MOST
  rw [Bool.and_eq_true, decide_eq_true_eq, decide_eq_true_eq]
  exact Iff.rfl
structure LessAsked (n b s : Int) (x y : List Int) : Prop where
  ok : 0 ≤ n → n ≤ 1048576 → (b = 1 ∨ b = 2) → (s = 0 ∨ s = 1) → (x.length : Int) = n ∧ (y.length : Int) = n
  px : ∀ v ∈ x, 0 ≤ v ∧ v ≤ 256 ^ b.toNat - 1
  py : ∀ v ∈ y, 0 ≤ v ∧ v ≤ 256 ^ b.toNat - 1
theorem less_asked {n b s : Int} {x y : List Int} (h : PySf26.less_asked n b s x y = true) : LessAsked n b s x y := by
  have h1 := asked_one h
  simp only [asked1, Bool.and_eq_true, beq_iff_eq, List.all_eq_true, natural, decide_eq_true_eq, sized, within, Bool.or_eq_true] at h1
  obtain ⟨⟨⟨⟨_, _⟩, _⟩, _⟩, ⟨⟨⟨l1, hx⟩, l2⟩, hy⟩⟩ := h1
  refine ⟨fun a b c d => ?_, hx, hy⟩
  rw [if_pos ⟨⟨a, b⟩, c, by omega⟩] at l1 l2
  exact ⟨l1, l2⟩
theorem less_no {n b s : Int} {x y : List Int} (h : ¬ (0 ≤ n ∧ n ≤ 1048576 ∧ (b = 1 ∨ b = 2) ∧ (s = 0 ∨ s = 1))) : PySf26.less n b s x y = [-1] := by
  have e : PySf26.less n b s x y = listOf (Sf26.spec (.less n b s (natsOf x) (natsOf y))) := rfl
  rw [e]
  unfold Sf26.spec
  rw [if_neg]
  · rfl
  · intro r
    apply h
    simp only [Sf26.Call.right, size_iff, Sf26.isOne, Bool.and_eq_true] at r
    refine ⟨r.1.1, r.1.2, ?_, ?_⟩
    · simpa using r.2.1
    · simpa using r.2.2
theorem less_yes {n b s : Int} {x y : List Int} (h : 0 ≤ n ∧ n ≤ 1048576 ∧ (b = 1 ∨ b = 2) ∧ (s = 0 ∨ s = 1)) : PySf26.less n b s x y = 0 :: (((natsOf x).zip (natsOf y)).map fun p => Sf26.less (8 * b.toNat) (s == 1) p.1 p.2).map (fun (k : Nat) => (k : Int)) := by
  have e : PySf26.less n b s x y = listOf (Sf26.spec (.less n b s (natsOf x) (natsOf y))) := rfl
  rw [e]
  unfold Sf26.spec
  rw [if_pos]
  · rfl
  · simp only [Sf26.Call.right, size_iff, Sf26.isOne, Bool.and_eq_true]
    refine ⟨⟨h.1, h.2.1⟩, ?_, ?_⟩
    · simpa using h.2.2.1
    · simpa using h.2.2.2
theorem zip_range {β : Type} (x y : List Int) (g : Nat → Nat → β) (m : Nat) (hx : x.length = m) (hy : y.length = m) :
    ((natsOf x).zip (natsOf y)).map (fun p => g p.1 p.2) = (List.range m).map fun i => g (x.getD i 0).toNat (y.getD i 0).toNat := by
  apply List.ext_getElem
  · simp [natsOf, hx, hy]
  · intro i h1 h2
    have hi : i < m := by simpa using h2
    have hxi : i < x.length := by omega
    have hyi : i < y.length := by omega
    simp [natsOf, List.getD, hxi, hyi]
theorem getD_of {P : Int → Prop} {l : List Int} (h : ∀ v ∈ l, P v) (i : Nat) (hi : i < l.length) : P (l.getD i 0) := by
  have e : l.getD i 0 = l[i] := by simp [List.getD, hi]
  rw [e]
  exact h _ (List.getElem_mem hi)
/-- what stands behind the 0 after k turns, by places -/
structure Told (F : Nat → Int) (k : Nat) (a : List Int) : Prop where
  eq : a = 0 :: (List.range k).map F
theorem told_start {F : Nat → Int} : [(0 : Int)].length = ([] : List Int).length + 1 ∧ Told F ([] : List Int).length [0] := ⟨rfl, ⟨rfl⟩⟩
theorem told_turn {F : Nat → Int} {a pre : List Int} {k v : Int} (h : Told F pre.length a) (hl : a.length = pre.length + 1) (hv : v = F pre.length) :
    (a ++ [v]).length = (pre ++ [k]).length + 1 ∧ Told F (pre ++ [k]).length (a ++ [v]) := by
  have l : (pre ++ [k]).length = pre.length + 1 := by simp
  rw [l]
  refine ⟨by simp [hl], ⟨?_⟩⟩
  rw [List.range_succ, List.map_append, h.eq, hv]
  rfl
@[irreducible] def lessF (bits : Nat) (s : Bool) (x y : List Int) (i : Nat) : Int := ((Sf26.less bits s (x.getD i 0).toNat (y.getD i 0).toNat : Nat) : Int)
@[irreducible] def readS (a span : Int) : Int := if a < Int.fdiv span 2 then a else a - span
@[irreducible] def tellS (a span : Int) : Int := if a < 0 then a + span else a
@[irreducible] def lessU (a b : Int) : Int := if 0 > a - b then 0 else a - b
abbrev lessS (a b span : Int) : Int :=
  tellS (if Int.fdiv span 2 - 1 < (if 0 - Int.fdiv span 2 > readS a span - readS b span then 0 - Int.fdiv span 2 else readS a span - readS b span) then Int.fdiv span 2 - 1
    else (if 0 - Int.fdiv span 2 > readS a span - readS b span then 0 - Int.fdiv span 2 else readS a span - readS b span)) span
theorem lessU_eq {a b : Int} {bits : Nat} (h0 : 0 ≤ a) (h1 : a < 2 ^ bits) (h2 : 0 ≤ b) : lessU a b = ((Sf26.less bits false a.toNat b.toNat : Nat) : Int) := by
  unfold lessU Sf26.less Sf26.held
  generalize (2 : Int) ^ bits = w at *
  simp only [Bool.false_eq_true, if_false]
  omega
theorem lessS8 {a b : Int} (h0 : 0 ≤ a) (h1 : a ≤ 255) (h2 : 0 ≤ b) (h3 : b ≤ 255) : lessS a b 256 = ((Sf26.less 8 true a.toNat b.toNat : Nat) : Int) := by
  have f : Int.fdiv 256 2 = 128 := by decide
  unfold lessS Sf26.less Sf26.held Sf26.bitsOf Sf26.signed readS tellS
  rw [f]
  have p1 : (2 : Int) ^ 8 = 256 := by decide
  have p2 : (2 : Int) ^ (8 - 1) = 128 := by decide
  have p3 : (2 : Nat) ^ (8 - 1) = 128 := by decide
  simp only [p1, p2, p3, if_true]
  omega
theorem lessS16 {a b : Int} (h0 : 0 ≤ a) (h1 : a ≤ 65535) (h2 : 0 ≤ b) (h3 : b ≤ 65535) : lessS a b 65536 = ((Sf26.less 16 true a.toNat b.toNat : Nat) : Int) := by
  have f : Int.fdiv 65536 2 = 32768 := by decide
  unfold lessS Sf26.less Sf26.held Sf26.bitsOf Sf26.signed readS tellS
  rw [f]
  have p1 : (2 : Int) ^ 16 = 65536 := by decide
  have p2 : (2 : Int) ^ (16 - 1) = 32768 := by decide
  have p3 : (2 : Nat) ^ (16 - 1) = 32768 := by decide
  simp only [p1, p2, p3, if_true]
  omega

theorem less_end {n b s : Int} {x y a : List Int} (q : LessAsked n b s x y) (h0 : 0 ≤ n) (h1 : n ≤ 1048576) (h2 : b = 1 ∨ b = 2) (h3 : s = 0 ∨ s = 1) {m : Nat} (hm : (m : Int) = n) (t : Told (lessF (8 * b.toNat) (s == 1) x y) m a) : a = PySf26.less n b s x y := by
  obtain ⟨lx, ly⟩ := q.ok h0 h1 h2 h3
  rw [t.eq, less_yes ⟨h0, h1, h2, h3⟩, zip_range x y (Sf26.less (8 * b.toNat) (s == 1)) m (by omega) (by omega), List.map_map]
  congr 1
  apply List.map_congr_left
  intro i _
  unfold lessF
  rfl
theorem val_u1 {n k : Int} {x y : List Int} {m : Nat} (q : LessAsked n 1 0 x y) (hk : k = 0 + (m : Int)) (hx : m < x.length) (hy : m < y.length) :
    lessU (x.getD k.toNat 0) (y.getD k.toNat 0) = lessF (8 * (1 : Int).toNat) ((0 : Int) == 1) x y m := by
  have e : k.toNat = m := by omega
  rw [e]
  have p1 := getD_of q.px m hx
  have p2 := getD_of q.py m hy
  have p : (256 : Int) ^ (1 : Int).toNat = 256 := by decide
  rw [p] at p1 p2
  unfold lessF
  exact lessU_eq (bits := 8) p1.1 (by have : (2 : Int) ^ 8 = 256 := by decide
                                      omega) p2.1
theorem val_u2 {n k : Int} {x y : List Int} {m : Nat} (q : LessAsked n 2 0 x y) (hk : k = 0 + (m : Int)) (hx : m < x.length) (hy : m < y.length) :
    lessU (x.getD k.toNat 0) (y.getD k.toNat 0) = lessF (8 * (2 : Int).toNat) ((0 : Int) == 1) x y m := by
  have e : k.toNat = m := by omega
  rw [e]
  have p1 := getD_of q.px m hx
  have p2 := getD_of q.py m hy
  have p : (256 : Int) ^ (2 : Int).toNat = 65536 := by decide
  rw [p] at p1 p2
  unfold lessF
  exact lessU_eq (bits := 16) p1.1 (by have : (2 : Int) ^ 16 = 65536 := by decide
                                       omega) p2.1
theorem val_s1 {n k : Int} {x y : List Int} {m : Nat} (q : LessAsked n 1 1 x y) (hk : k = 0 + (m : Int)) (hx : m < x.length) (hy : m < y.length) :
    lessS (x.getD k.toNat 0) (y.getD k.toNat 0) 256 = lessF (8 * (1 : Int).toNat) ((1 : Int) == 1) x y m := by
  have e : k.toNat = m := by omega
  rw [e]
  have p1 := getD_of q.px m hx
  have p2 := getD_of q.py m hy
  have p : (256 : Int) ^ (1 : Int).toNat = 256 := by decide
  rw [p] at p1 p2
  unfold lessF
  exact lessS8 p1.1 (by omega) p2.1 (by omega)
theorem val_s2 {n k : Int} {x y : List Int} {m : Nat} (q : LessAsked n 2 1 x y) (hk : k = 0 + (m : Int)) (hx : m < x.length) (hy : m < y.length) :
    lessS (x.getD k.toNat 0) (y.getD k.toNat 0) 65536 = lessF (8 * (2 : Int).toNat) ((1 : Int) == 1) x y m := by
  have e : k.toNat = m := by omega
  rw [e]
  have p1 := getD_of q.px m hx
  have p2 := getD_of q.py m hy
  have p : (256 : Int) ^ (2 : Int).toNat = 65536 := by decide
  rw [p] at p1 p2
  unfold lessF
  exact lessS16 p1.1 (by omega) p2.1 (by omega)
end My
open PySem PySem.W
namespace My
theorem said : PySem.Challenge.rw_smallrows_s02_less.wellSaid = true := by decide +kernel
abbrev Req (n b s : Int) (x y : List Int) : Prop := PySem.Challenge.rw_smallrows_s02_less.pre [WData.int n, WData.int b, WData.int s, ofPy (PyData.list (x.map PyData.int)), ofPy (PyData.list (y.map PyData.int))] = true
theorem opened {n b s : Int} {x y : List Int} (h : Req n b s x y) : LessAsked n b s x y := by
  obtain ⟨⟨n', b', s', x', y', u⟩, w, q, e⟩ := os_pre said h
  have e1 := os_j_int (List.cons.inj e).1
  have e2 := os_j_int (List.cons.inj (List.cons.inj e).2).1
  have e3 := os_j_int (List.cons.inj (List.cons.inj (List.cons.inj e).2).2).1
  have e4 := os_j_ints (List.cons.inj (List.cons.inj (List.cons.inj (List.cons.inj e).2).2).2).1
  have e5 := os_j_ints (List.cons.inj (List.cons.inj (List.cons.inj (List.cons.inj (List.cons.inj e).2).2).2).2).1
  subst e1 e2 e3 e4 e5
  exact less_asked q
theorem shut {n b s : Int} {x y a : List Int} (h : Req n b s x y) (ea : a = PySf26.less n b s x y) :
    PySem.Challenge.rw_smallrows_s02_less.post [WData.int n, WData.int b, WData.int s, ofPy (PyData.list (x.map PyData.int)), ofPy (PyData.list (y.map PyData.int))] (ofPy (PyData.list (a.map PyData.int))) = true := by
  obtain ⟨⟨n', b', s', x', y', u⟩, w, q, e⟩ := os_pre said h
  have e1 := os_j_int (List.cons.inj e).1
  have e2 := os_j_int (List.cons.inj (List.cons.inj e).2).1
  have e3 := os_j_int (List.cons.inj (List.cons.inj (List.cons.inj e).2).2).1
  have e4 := os_j_ints (List.cons.inj (List.cons.inj (List.cons.inj (List.cons.inj e).2).2).2).1
  have e5 := os_j_ints (List.cons.inj (List.cons.inj (List.cons.inj (List.cons.inj (List.cons.inj e).2).2).2).2).1
  subst e1 e2 e3 e4 e5
  rw [e]
  refine os_shut said w ?_
  subst ea
  exact os_list rfl
abbrev argF {n b s : Int} {x y : List Int} (_ : Req n b s x y) : Nat → Int := lessF (8 * b.toNat) (s == 1) x y
inductive Cases (n b s : Int) (x y : List Int) : Prop where
  | low (h : n < 0)
  | high (h : 1048576 < n)
  | other (h0 : 0 ≤ n) (h1 : n ≤ 1048576) (h2 : b ≠ 1) (h3 : b ≠ 2)
  | odd1 (h0 : 0 ≤ n) (h1 : n ≤ 1048576) (h2 : b = 1) (h3 : s ≠ 0) (h4 : s ≠ 1)
  | odd2 (h0 : 0 ≤ n) (h1 : n ≤ 1048576) (h2 : b = 2) (h3 : s ≠ 0) (h4 : s ≠ 1)
  | u1 (h0 : 0 ≤ n) (h1 : n ≤ 1048576) (h2 : b = 1) (h3 : s = 0) (hx : (x.length : Int) = n) (hy : (y.length : Int) = n)
  | u2 (h0 : 0 ≤ n) (h1 : n ≤ 1048576) (h2 : b = 2) (h3 : s = 0) (hx : (x.length : Int) = n) (hy : (y.length : Int) = n)
  | s1 (h0 : 0 ≤ n) (h1 : n ≤ 1048576) (h2 : b = 1) (h3 : s = 1) (hx : (x.length : Int) = n) (hy : (y.length : Int) = n)
  | s2 (h0 : 0 ≤ n) (h1 : n ≤ 1048576) (h2 : b = 2) (h3 : s = 1) (hx : (x.length : Int) = n) (hy : (y.length : Int) = n)
theorem cases {n b s : Int} {x y : List Int} (h : Req n b s x y) : Cases n b s x y := by
  have q := opened h
  by_cases h0 : 0 ≤ n
  · by_cases h1 : n ≤ 1048576
    · by_cases h2 : b = 1
      · by_cases h3 : s = 0
        · exact .u1 h0 h1 h2 h3 (q.ok h0 h1 (.inl h2) (.inl h3)).1 (q.ok h0 h1 (.inl h2) (.inl h3)).2
        · by_cases h4 : s = 1
          · exact .s1 h0 h1 h2 h4 (q.ok h0 h1 (.inl h2) (.inr h4)).1 (q.ok h0 h1 (.inl h2) (.inr h4)).2
          · exact .odd1 h0 h1 h2 h3 h4
      · by_cases h2' : b = 2
        · by_cases h3 : s = 0
          · exact .u2 h0 h1 h2' h3 (q.ok h0 h1 (.inr h2') (.inl h3)).1 (q.ok h0 h1 (.inr h2') (.inl h3)).2
          · by_cases h4 : s = 1
            · exact .s2 h0 h1 h2' h4 (q.ok h0 h1 (.inr h2') (.inr h4)).1 (q.ok h0 h1 (.inr h2') (.inr h4)).2
            · exact .odd2 h0 h1 h2' h3 h4
        · exact .other h0 h1 h2 h2'
    · exact .high (by omega)
  · exact .low (by omega)
theorem no_way {a p q : Int} (h : (if a = p then a == p else a == q) = true) (h1 : a ≠ p) (h2 : a ≠ q) : False := by
  rw [if_neg h1] at h
  exact h2 (by simpa using h)
end My
local macro_rules | `(tactic| walk_at "call ref") => `(tactic| (k_here; k_dflt (exfalso; exact My.no_way (by assumption) (by assumption) (by assumption))))
open PyProof.Rows in
local macro_rules | `(tactic| walk_at "call builtin:max") => `(tactic| (k_here; (with_reducible show wpAny _ _ (call (Value.builtin "max") [Value.int _ _, Value.int _ _]) _ _ _); k_dflt (refine' max_two_N ?k0 ?k1 ?k2 ?_; (case k0 => with_unfolding_all rfl); (case k1 => k_asm); (case k2 => k_asm); k_whole); intro h' tk' F' N'; (try k_sweep)))
open PyProof.Rows in
local macro_rules | `(tactic| walk_at "call builtin:min") => `(tactic| (k_here; (with_reducible show wpAny _ _ (call (Value.builtin "min") [Value.int _ _, Value.int _ _]) _ _ _); k_dflt (refine' min_two_N ?k0 ?k1 ?k2 ?_; (case k0 => with_unfolding_all rfl); (case k1 => k_asm); (case k2 => k_asm); k_whole); intro h' tk' F' N'; (try k_sweep)))
open PyProof.Rows in
local macro_rules | `(tactic| walk_at "call builtin:list.append") => `(tactic| (k_here; (with_reducible show wpAny _ _ (call (Value.builtin _) [Value.ref _, _]) _ _ _); k_dflt (refine' append_K ?k1 ?k2 ?k3 ?_ ?z; (case k1 => k_asm); (case k2 => k_asm); (case k3 => k_upd); (case z => (simp only [List.size_toArray, PySem.sizeLine_eq]; omega)); k_whole); intro h' F' N'; (try k_sweep)))
local macro_rules | `(tactic| walk_at "call type:range") => `(tactic| (k_here; k_dflt (exfalso; omega)))
local macro_rules | `(tactic| walk_at "call type:range") => `(tactic| (k_here; k_dflt (exfalso; exact My.no_way (by assumption) (by assumption) (by assumption))))
local macro_rules | `(tactic| walk_at "storeName") => `(tactic| (k_here; k_dflt (exfalso; exact My.no_way (by assumption) (by assumption) (by assumption))))
set_option maxRecDepth 100000 in
set_option maxHeartbeats 8000000 in
theorem PySem.Challenge.cw_smallrows_s02_less_holds : PySem.Challenge.rw_smallrows_s02_less.Holds := by
  k_with "call ref" => k_call_by "read_signed" My.readS
  k_with "call ref" => k_call_by "tell_signed" My.tellS
  k_with "call ref" => k_call_by "less_unsigned" My.lessU
  k_with "tree" => first
    | (simp only [My.lessU]; done)
    | simp only [My.lessU]
    | simp only [My.readS]
    | simp only [My.tellS]
  k_with "state" => first
    | exact My.told_start
    | exact My.told_turn (by assumption) (by assumption) (My.val_u1 (My.opened hc0) (by assumption) (by omega) (by omega))
    | exact My.told_turn (by assumption) (by assumption) (My.val_u2 (My.opened hc0) (by assumption) (by omega) (by omega))
    | exact My.told_turn (by assumption) (by assumption) (My.val_s1 (My.opened hc0) (by assumption) (by omega) (by omega))
    | exact My.told_turn (by assumption) (by assumption) (My.val_s2 (My.opened hc0) (by assumption) (by omega) (by omega))
  k_with "pyIter ref" => k_state (fun pre answer => answer.length = pre.length + 1 ∧ My.Told (My.argF hc0) pre.length answer) "answer"
  w_on; k_headS
  case hw => exact ⟨[.int 0, .int 1, .int 0, .list [], .list []], by decide +kernel, by decide +kernel⟩
  w_strict (
    k_goS0
    rename PySem.Challenge.rw_smallrows_s02_less.pre _ = true => hc0
    cases My.cases hc0 with
    | low h => ((all_goals try k_fold); k_steps; (all_goals (try (w_end; sp_is; wrow_close))); all_goals (sp_left; exact My.shut (a := [-1]) hpre (My.less_no (by omega)).symm))
    | high h => ((all_goals try k_fold); k_steps; (all_goals (try (w_end; sp_is; wrow_close))); all_goals (sp_left; exact My.shut (a := [-1]) hpre (My.less_no (by omega)).symm))
    | other h0 h1 h2 h3 => ((all_goals try k_fold); k_steps; (all_goals (try (w_end; sp_is; wrow_close))); all_goals (sp_left; exact My.shut (a := [-1]) hpre (My.less_no (by omega)).symm))
    | odd1 h0 h1 h2 h3 h4 => (subst h2; (all_goals try k_fold); k_steps; (all_goals (try (w_end; sp_is; wrow_close))); all_goals (sp_left; exact My.shut (a := [-1]) hpre (My.less_no (by omega)).symm))
    | odd2 h0 h1 h2 h3 h4 => (subst h2; (all_goals try k_fold); k_steps; (all_goals (try (w_end; sp_is; wrow_close))); all_goals (sp_left; exact My.shut (a := [-1]) hpre (My.less_no (by omega)).symm))
    | u1 h0 h1 h2 h3 hx hy => (subst h2 h3; (all_goals try k_fold); k_steps; (all_goals (try (w_end; sp_is; wrow_close))); all_goals (sp_left; refine My.shut hpre (My.less_end (My.opened hpre) h0 h1 (by omega) (by omega) ?_ (by assumption)); simp only [rangeKs_length]; omega))
    | u2 h0 h1 h2 h3 hx hy => (subst h2 h3; (all_goals try k_fold); k_steps; (all_goals (try (w_end; sp_is; wrow_close))); all_goals (sp_left; refine My.shut hpre (My.less_end (My.opened hpre) h0 h1 (by omega) (by omega) ?_ (by assumption)); simp only [rangeKs_length]; omega))
    | s1 h0 h1 h2 h3 hx hy => (subst h2 h3; (all_goals try k_fold); k_steps; (all_goals (try (w_end; sp_is; wrow_close))); all_goals (sp_left; refine My.shut hpre (My.less_end (My.opened hpre) h0 h1 (by omega) (by omega) ?_ (by assumption)); simp only [rangeKs_length]; omega))
    | s2 h0 h1 h2 h3 hx hy => (subst h2 h3; (all_goals try k_fold); k_steps; (all_goals (try (w_end; sp_is; wrow_close))); all_goals (sp_left; refine My.shut hpre (My.less_end (My.opened hpre) h0 h1 (by omega) (by omega) ?_ (by assumption)); simp only [rangeKs_length]; omega)))
#print axioms PySem.Challenge.cw_smallrows_s02_less_holds
