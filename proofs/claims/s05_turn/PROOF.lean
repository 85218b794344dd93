import PyProof.Rows.All
import KE.OsGo
import KE.OsArgs
import PySem.Challenge.RW_smallrows_s05_turn
set_option Elab.async false
set_option maxRecDepth 100000
namespace My
open Sf26Neutral
theorem asked_one {c : Call} (h : asked [c] = true) : asked1 c = true := by
  simp only [asked, List.all_cons, List.all_nil, Bool.and_true, Bool.and_eq_true] at h
  exact h.1.2
theorem size_iff {n : Int} : Sf26.size n = true ↔ 0 ≤ n ∧ n ≤ 1048576 := by
  unfold Sf26.size Sf26.MOST
  rw [Bool.and_eq_true, decide_eq_true_eq, decide_eq_true_eq]
  exact Iff.rfl
theorem from_iff {z a b : Int} : Sf26.from_ z a b = true ↔ a ≤ z ∧ z ≤ b := by
  unfold Sf26.from_
  rw [Bool.and_eq_true, decide_eq_true_eq, decide_eq_true_eq]
theorem getD_of {P : Int → Prop} {l : List Int} (h : ∀ v ∈ l, P v) (i : Nat) (hi : i < l.length) : P (l.getD i 0) := by
  have e : l.getD i 0 = l[i] := by simp [List.getD, hi]
  rw [e]
  exact h _ (List.getElem_mem hi)
theorem getD_all {P : Int → Prop} {l : List Int} (h : ∀ v ∈ l, P v) (h0 : P 0) (i : Nat) : P (l.getD i 0) := by
  by_cases hi : i < l.length
  · exact getD_of h i hi
  · have e : l.getD i 0 = 0 := by simp [List.getD, hi]
    rw [e]; exact h0
theorem zip_range {β : Type} (x y : List Int) (g : Nat → Nat → β) (m : Nat) (hx : x.length = m) (hy : y.length = m) :
    ((natsOf x).zip (natsOf y)).map (fun p => g p.1 p.2) = (List.range m).map fun i => g (x.getD i 0).toNat (y.getD i 0).toNat := by
  apply List.ext_getElem
  · simp [natsOf, hx, hy]
  · intro i h1 h2
    have hi : i < m := by simpa using h2
    have hxi : i < x.length := by omega
    have hyi : i < y.length := by omega
    simp [natsOf, List.getD, hxi, hyi]
theorem nats_range {β : Type} (x : List Int) (g : Nat → β) (m : Nat) (hx : x.length = m) :
    (natsOf x).map g = (List.range m).map fun i => g (x.getD i 0).toNat := by
  apply List.ext_getElem
  · simp [natsOf, hx]
  · intro i h1 h2
    have hi : i < m := by simpa using h2
    have hxi : i < x.length := by omega
    simp [natsOf, List.getD, hxi]
structure TurnAsked (n b : Int) (x y : List Int) : Prop where
  ok : 0 ≤ n → n ≤ 1048576 → (b = 4 ∨ b = 8) → (x.length : Int) = n ∧ (y.length : Int) = n
  px : ∀ v ∈ x, 0 ≤ v ∧ v ≤ 256 ^ b.toNat - 1
  py : ∀ v ∈ y, 0 ≤ v ∧ v ≤ 255
theorem turn_asked {n b : Int} {x y : List Int} (h : PySf26.turn_asked n b x y = true) : TurnAsked n b x y := by
  have h1 := asked_one h
  simp only [asked1, Bool.and_eq_true, beq_iff_eq, List.all_eq_true, natural, decide_eq_true_eq, sized, byte, within, Bool.or_eq_true] at h1
  obtain ⟨_, ⟨⟨⟨l1, hx⟩, l2⟩, hy⟩⟩ := h1
  refine ⟨fun a b c => ?_, hx, hy⟩
  rw [if_pos ⟨⟨a, b⟩, c⟩] at l1 l2
  exact ⟨l1, l2⟩
theorem turn_no {n b : Int} {x y : List Int} (h : ¬ (0 ≤ n ∧ n ≤ 1048576 ∧ (b = 4 ∨ b = 8))) : PySf26.turn n b x y = [-1] := by
  have e : PySf26.turn n b x y = listOf (Sf26.spec (.turn n b (natsOf x) (natsOf y))) := rfl
  rw [e]
  unfold Sf26.spec
  rw [if_neg]
  · rfl
  · intro r
    apply h
    simp only [Sf26.Call.right, size_iff, Sf26.isOne, Bool.and_eq_true] at r
    exact ⟨r.1.1, r.1.2, by simpa using r.2⟩
theorem turn_yes {n b : Int} {x y : List Int} (h : 0 ≤ n ∧ n ≤ 1048576 ∧ (b = 4 ∨ b = 8)) : PySf26.turn n b x y = 0 :: (((natsOf x).zip (natsOf y)).map fun p => Sf26.turn (8 * b.toNat) p.2 p.1).map (fun (k : Nat) => (k : Int)) := by
  have e : PySf26.turn n b x y = listOf (Sf26.spec (.turn n b (natsOf x) (natsOf y))) := rfl
  rw [e]
  unfold Sf26.spec
  rw [if_pos]
  · rfl
  · simp only [Sf26.Call.right, size_iff, Sf26.isOne, Bool.and_eq_true]
    exact ⟨⟨h.1, h.2.1⟩, by simpa using h.2.2⟩
/-- what stands behind the 0 after k turns, by places -/
structure Told (F : Nat → Int) (k : Nat) (a : List Int) : Prop where
  eq : a = 0 :: (List.range k).map F
theorem told_start {F : Nat → Int} : [(0 : Int)].length = ([] : List Int).length + 1 ∧ Told F ([] : List Int).length [0] := ⟨rfl, ⟨rfl⟩⟩
theorem told_turn {F : Nat → Int} {a pre : List Int} {k v : Int} (h : Told F pre.length a) (hl : a.length = pre.length + 1) (hv : v = F pre.length) :
    (a ++ [v]).length = (pre ++ [k]).length + 1 ∧ Told F (pre ++ [k]).length (a ++ [v]) := by
  have l : (pre ++ [k]).length = pre.length + 1 := by simp
  rw [l]
  refine ⟨by simp [hl], ⟨?_⟩⟩
  rw [List.range_succ, List.map_append, h.eq, hv]
  rfl
theorem turn_nat (B k x : Nat) (hk : k ≤ B) (hx : x < 2 ^ B) : (x * 2 ^ B + x) / 2 ^ k % 2 ^ B = x / 2 ^ k + x % 2 ^ k * 2 ^ (B - k) % 2 ^ B := by
  have hB : 2 ^ B = 2 ^ (B - k) * 2 ^ k := by rw [← Nat.pow_add]; congr 1; omega
  rw [hB] at hx ⊢
  have hK : 0 < 2 ^ k := Nat.two_pow_pos k
  generalize 2 ^ (B - k) = M at *
  generalize 2 ^ k = K at *
  have e1 : x * (M * K) + x = x + x * M * K := by rw [Nat.mul_assoc, Nat.add_comm]
  rw [e1, Nat.add_mul_div_right x (x * M) hK]
  have hq : x / K < M := Nat.div_lt_of_lt_mul (by rw [Nat.mul_comm]; exact hx)
  have hr : x % K < K := Nat.mod_lt x hK
  have hd : K * (x / K) + x % K = x := Nat.div_add_mod x K
  generalize x / K = q at *
  generalize x % K = r at *
  have e2 : x * M = r * M + q * (M * K) := by
    rw [← hd, Nat.add_mul, Nat.add_comm, Nat.mul_comm K q, Nat.mul_assoc, Nat.mul_comm K M]
  have h3 : (r + 1) * M ≤ K * M := Nat.mul_le_mul_right M hr
  rw [Nat.add_mul, Nat.one_mul] at h3
  have h4 : M * K = K * M := Nat.mul_comm M K
  rw [e2, ← Nat.add_assoc, Nat.add_mul_mod_self_right, Nat.mod_eq_of_lt (by omega : q + r * M < M * K), Nat.mod_eq_of_lt (by omega : r * M < M * K)]
@[irreducible] def turnF (bits : Nat) (x y : List Int) (i : Nat) : Int := ((Sf26.turn bits (y.getD i 0).toNat (x.getD i 0).toNat : Nat) : Int)
theorem turn_int (B : Nat) (hB : 0 < B) {x y : Int} (h0 : 0 ≤ x) (h1 : x < 2 ^ B) (h2 : 0 ≤ y) :
    Int.fmod (Int.fdiv (x * 2 ^ B + x) (2 ^ (Int.fmod y (B : Int)).toNat)) (2 ^ B) = ((Sf26.turn B y.toNat x.toNat : Nat) : Int) := by
  unfold Sf26.turn
  have ek : (Int.fmod y (B : Int)).toNat = y.toNat % B := by
    rw [Int.fmod_eq_emod_of_nonneg _ (by omega)]
    have ey : y = ((y.toNat : Nat) : Int) := by omega
    conv => lhs; rw [ey]
    rw [← Int.natCast_emod, Int.toNat_natCast]
  have hk := Nat.mod_lt y.toNat hB
  rw [ek]
  have hx : x.toNat < 2 ^ B := by
    have : ((2 ^ B : Nat) : Int) = (2 : Int) ^ B := by rw [Int.natCast_pow]; rfl
    omega
  show _ = (((x.toNat / 2 ^ (y.toNat % B) + x.toNat % 2 ^ (y.toNat % B) * 2 ^ (B - y.toNat % B) % 2 ^ B) : Nat) : Int)
  rw [← turn_nat B (y.toNat % B) x.toNat (by omega) hx]
  have p (k : Nat) : (2 : Int) ^ k = ((2 ^ k : Nat) : Int) := by rw [Int.natCast_pow]; rfl
  have ex : x = ((x.toNat : Nat) : Int) := by omega
  rw [p, p, Int.fmod_eq_emod_of_nonneg _ (Int.natCast_nonneg _), Int.fdiv_eq_ediv_of_nonneg _ (Int.natCast_nonneg _)]
  conv => lhs; rw [ex]
  rw [← Int.natCast_mul, ← Int.natCast_add, ← Int.natCast_ediv, ← Int.natCast_emod]
theorem turn_end {n b : Int} {x y a : List Int} (q : TurnAsked n b x y) (h0 : 0 ≤ n) (h1 : n ≤ 1048576) (h2 : b = 4 ∨ b = 8) {m : Nat} (hm : (m : Int) = n) (t : Told (turnF (8 * b.toNat) x y) m a) : a = PySf26.turn n b x y := by
  obtain ⟨lx, ly⟩ := q.ok h0 h1 h2
  rw [t.eq, turn_yes ⟨h0, h1, h2⟩, zip_range x y (fun u v => Sf26.turn (8 * b.toNat) v u) m (by omega) (by omega), List.map_map]
  congr 1
  apply List.map_congr_left
  intro i _
  unfold turnF
  rfl
abbrev turn4 (x y : Int) : Int := Int.fmod (Int.fdiv (x * 4294967296 + x) (2 ^ (Int.fmod y (8 * 4)).toNat)) 4294967296
abbrev turn8 (x y : Int) : Int := Int.fmod (Int.fdiv (x * 18446744073709551616 + x) (2 ^ (Int.fmod y (8 * 8)).toNat)) 18446744073709551616
theorem val4 {n k : Int} {x y : List Int} {m : Nat} (q : TurnAsked n 4 x y) (hk : k = 0 + (m : Int)) (hx : m < x.length) (hy : m < y.length) :
    turn4 (x.getD k.toNat 0) (y.getD k.toNat 0) = turnF (8 * (4 : Int).toNat) x y m := by
  have e : k.toNat = m := by omega
  rw [e]
  have p1 := getD_of q.px m hx
  have p2 := getD_of q.py m hy
  have p : (256 : Int) ^ (4 : Int).toNat = 4294967296 := by decide
  rw [p] at p1
  unfold turnF
  exact turn_int 32 (by decide) p1.1 (by have : (2 : Int) ^ 32 = 4294967296 := by decide
                                         omega) p2.1
theorem val8 {n k : Int} {x y : List Int} {m : Nat} (q : TurnAsked n 8 x y) (hk : k = 0 + (m : Int)) (hx : m < x.length) (hy : m < y.length) :
    turn8 (x.getD k.toNat 0) (y.getD k.toNat 0) = turnF (8 * (8 : Int).toNat) x y m := by
  have e : k.toNat = m := by omega
  rw [e]
  have p1 := getD_of q.px m hx
  have p2 := getD_of q.py m hy
  have p : (256 : Int) ^ (8 : Int).toNat = 18446744073709551616 := by decide
  rw [p] at p1
  unfold turnF
  exact turn_int 64 (by decide) p1.1 (by have : (2 : Int) ^ 64 = 18446744073709551616 := by decide
                                         omega) p2.1
end My
open PySem PySem.W
namespace My
theorem said : PySem.Challenge.rw_smallrows_s05_turn.wellSaid = true := by decide +kernel
abbrev Req (n : Int) (b : Int) (x : List Int) (y : List Int) : Prop := PySem.Challenge.rw_smallrows_s05_turn.pre [WData.int n, WData.int b, ofPy (PyData.list (x.map PyData.int)), ofPy (PyData.list (y.map PyData.int))] = true
theorem opened {n : Int} {b : Int} {x : List Int} {y : List Int} (h : Req n b x y) : TurnAsked n b x y := by
  obtain ⟨⟨n', b', x', y', u⟩, w, q, e⟩ := os_pre said h
  have e1 := os_j_int (List.cons.inj e).1
  have e2 := os_j_int (List.cons.inj (List.cons.inj e).2).1
  have e3 := os_j_ints (List.cons.inj (List.cons.inj (List.cons.inj e).2).2).1
  have e4 := os_j_ints (List.cons.inj (List.cons.inj (List.cons.inj (List.cons.inj e).2).2).2).1
  subst e1 e2 e3 e4
  exact turn_asked q
theorem shut {n : Int} {b : Int} {x : List Int} {y : List Int} {a : List Int} (h : Req n b x y) (ea : a = PySf26.turn n b x y) :
    PySem.Challenge.rw_smallrows_s05_turn.post [WData.int n, WData.int b, ofPy (PyData.list (x.map PyData.int)), ofPy (PyData.list (y.map PyData.int))] (ofPy (PyData.list (a.map PyData.int))) = true := by
  obtain ⟨⟨n', b', x', y', u⟩, w, q, e⟩ := os_pre said h
  have e1 := os_j_int (List.cons.inj e).1
  have e2 := os_j_int (List.cons.inj (List.cons.inj e).2).1
  have e3 := os_j_ints (List.cons.inj (List.cons.inj (List.cons.inj e).2).2).1
  have e4 := os_j_ints (List.cons.inj (List.cons.inj (List.cons.inj (List.cons.inj e).2).2).2).1
  subst e1 e2 e3 e4
  rw [e]
  refine os_shut said w ?_
  subst ea
  exact os_list rfl
abbrev argF {n b : Int} {x y : List Int} (_ : Req n b x y) : Nat → Int := turnF (8 * b.toNat) x y
inductive Cases (n b : Int) (x y : List Int) : Prop where
  | low (h : n < 0)
  | high (h : 1048576 < n)
  | other (h0 : 0 ≤ n) (h1 : n ≤ 1048576) (h2 : b ≠ 4) (h3 : b ≠ 8)
  | four (h0 : 0 ≤ n) (h1 : n ≤ 1048576) (h2 : b = 4) (hx : (x.length : Int) = n) (hy : (y.length : Int) = n)
  | eight (h0 : 0 ≤ n) (h1 : n ≤ 1048576) (h2 : b = 8) (hx : (x.length : Int) = n) (hy : (y.length : Int) = n)
theorem cases {n b : Int} {x y : List Int} (h : Req n b x y) : Cases n b x y := by
  have q := opened h
  by_cases h0 : 0 ≤ n
  · by_cases h1 : n ≤ 1048576
    · by_cases h2 : b = 4
      · exact .four h0 h1 h2 (q.ok h0 h1 (.inl h2)).1 (q.ok h0 h1 (.inl h2)).2
      · by_cases h3 : b = 8
        · exact .eight h0 h1 h3 (q.ok h0 h1 (.inr h3)).1 (q.ok h0 h1 (.inr h3)).2
        · exact .other h0 h1 h2 h3
    · exact .high (by omega)
  · exact .low (by omega)
theorem no_way {a p q : Int} (h : (if a = p then a == p else a == q) = true) (h1 : a ≠ p) (h2 : a ≠ q) : False := by
  rw [if_neg h1] at h
  exact h2 (by simpa using h)
theorem mul8 {n : Int} {x y : List Int} (h : Req n 8 x y) (i : Nat) : IntMulOk (x.getD i 0) 18446744073709551616 := by
  have q := opened h
  have p : (256 : Int) ^ (8 : Int).toNat = 18446744073709551616 := by decide
  have hb := getD_all (P := fun v => 0 ≤ v ∧ v ≤ 256 ^ (8 : Int).toNat - 1) q.px (by rw [p]; decide) i
  rw [p] at hb
  exact IntMulOk.of_left (intBits_le_64 (by omega) (by omega))
end My
open PyProof.Rows in
local macro_rules | `(tactic| walk_at "call builtin:list.append") => `(tactic| (k_here; (with_reducible show wpAny _ _ (call (Value.builtin _) [Value.ref _, _]) _ _ _); k_dflt (refine' append_K ?k1 ?k2 ?k3 ?_ ?z; (case k1 => k_asm); (case k2 => k_asm); (case k3 => k_upd); (case z => (simp only [List.size_toArray, PySem.sizeLine_eq]; omega)); k_whole); intro h' F' N'; (try k_sweep)))
local macro_rules | `(tactic| walk_at "call type:range") => `(tactic| (k_here; k_dflt (exfalso; omega)))
local macro_rules | `(tactic| walk_at "call ref") => `(tactic| (k_here; k_dflt (exfalso; exact My.no_way (by assumption) (by assumption) (by assumption))))
local macro_rules | `(tactic| walk_at "call type:range") => `(tactic| (k_here; k_dflt (exfalso; exact My.no_way (by assumption) (by assumption) (by assumption))))
local macro_rules | `(tactic| walk_at "storeName") => `(tactic| (k_here; k_dflt (exfalso; exact My.no_way (by assumption) (by assumption) (by assumption))))
open PyProof.Rows in
local macro_rules | `(tactic| walk_at "binaryOp Mult int int") => `(tactic| (k_here; (with_reducible show wpAny _ _ (binaryOp Operator.Mult (Value.int _ _) (Value.int 18446744073709551616 _)) _ _ _); k_dflt ((refine PyProof.Rows.mul_int ?_ (My.mul8 (by assumption) _)))))
set_option maxRecDepth 100000 in
set_option maxHeartbeats 8000000 in
theorem PySem.Challenge.cw_smallrows_s05_turn_holds : PySem.Challenge.rw_smallrows_s05_turn.Holds := by
  k_with "state" => first
    | exact My.told_start
    | exact My.told_turn (by assumption) (by assumption) (My.val4 (My.opened hc0) (by assumption) (by omega) (by omega))
    | exact My.told_turn (by assumption) (by assumption) (My.val8 (My.opened hc0) (by assumption) (by omega) (by omega))
  k_with "pyIter ref" => k_state (fun pre answer => answer.length = pre.length + 1 ∧ My.Told (My.argF hc0) pre.length answer) "answer"
  w_on; k_headS
  case hw => exact ⟨[.int 0, .int 4, .list [], .list []], by decide +kernel, by decide +kernel⟩
  w_strict (
    k_goS0
    rename PySem.Challenge.rw_smallrows_s05_turn.pre _ = true => hc0
    cases My.cases hc0 with
    | low h => ((all_goals try k_fold); k_steps; (all_goals (try (w_end; sp_is; wrow_close))); all_goals (sp_left; exact My.shut (a := [-1]) hpre (My.turn_no (by omega)).symm))
    | high h => ((all_goals try k_fold); k_steps; (all_goals (try (w_end; sp_is; wrow_close))); all_goals (sp_left; exact My.shut (a := [-1]) hpre (My.turn_no (by omega)).symm))
    | other h0 h1 h2 h3 => ((all_goals try k_fold); k_steps; (all_goals (try (w_end; sp_is; wrow_close))); all_goals (sp_left; exact My.shut (a := [-1]) hpre (My.turn_no (by omega)).symm))
    | four h0 h1 h2 hx hy => (subst h2; (all_goals try k_fold); k_steps; (all_goals (try (w_end; sp_is; wrow_close))); all_goals (sp_left; refine My.shut hpre (My.turn_end (My.opened hpre) h0 h1 (by omega) ?_ (by assumption)); simp only [rangeKs_length]; omega))
    | eight h0 h1 h2 hx hy => (subst h2; (all_goals try k_fold); k_steps; (all_goals (try (w_end; sp_is; wrow_close))); all_goals (sp_left; refine My.shut hpre (My.turn_end (My.opened hpre) h0 h1 (by omega) ?_ (by assumption)); simp only [rangeKs_length]; omega)))
#print axioms PySem.Challenge.cw_smallrows_s05_turn_holds
