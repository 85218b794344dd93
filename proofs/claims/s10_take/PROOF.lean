import PyProof.Rows.All
import KE.OsGo
import KE.OsArgs
import PySem.Challenge.RW_smallrows_s10_take
set_option Elab.async false
set_option maxRecDepth 100000
namespace My
open Sf26Neutral
theorem asked_one {c : Call} (h : asked [c] = true) : asked1 c = true := by
  simp only [asked, List.all_cons, List.all_nil, Bool.and_true, Bool.and_eq_true] at h
  exact h.1.2
theorem size_iff {n : Int} : Sf26.size n = true ↔ 0 ≤ n ∧ n ≤ 1048576 := by
  unfold Sf26.size Sf26.MOST
  rw [Bool.and_eq_true, decide_eq_true_eq, decide_eq_true_eq]
  exact Iff.rfl
theorem from_iff {z a b : Int} : Sf26.from_ z a b = true ↔ a ≤ z ∧ z ≤ b := by
  unfold Sf26.from_
  rw [Bool.and_eq_true, decide_eq_true_eq, decide_eq_true_eq]
theorem getD_of {P : Int → Prop} {l : List Int} (h : ∀ v ∈ l, P v) (i : Nat) (hi : i < l.length) : P (l.getD i 0) := by
  have e : l.getD i 0 = l[i] := by simp [List.getD, hi]
  rw [e]
  exact h _ (List.getElem_mem hi)
theorem getD_all {P : Int → Prop} {l : List Int} (h : ∀ v ∈ l, P v) (h0 : P 0) (i : Nat) : P (l.getD i 0) := by
  by_cases hi : i < l.length
  · exact getD_of h i hi
  · have e : l.getD i 0 = 0 := by simp [List.getD, hi]
    rw [e]; exact h0
theorem zip_range {β : Type} (x y : List Int) (g : Nat → Nat → β) (m : Nat) (hx : x.length = m) (hy : y.length = m) :
    ((natsOf x).zip (natsOf y)).map (fun p => g p.1 p.2) = (List.range m).map fun i => g (x.getD i 0).toNat (y.getD i 0).toNat := by
  apply List.ext_getElem
  · simp [natsOf, hx, hy]
  · intro i h1 h2
    have hi : i < m := by simpa using h2
    have hxi : i < x.length := by omega
    have hyi : i < y.length := by omega
    simp [natsOf, List.getD, hxi, hyi]
theorem nats_range {β : Type} (x : List Int) (g : Nat → β) (m : Nat) (hx : x.length = m) :
    (natsOf x).map g = (List.range m).map fun i => g (x.getD i 0).toNat := by
  apply List.ext_getElem
  · simp [natsOf, hx]
  · intro i h1 h2
    have hi : i < m := by simpa using h2
    have hxi : i < x.length := by omega
    simp [natsOf, List.getD, hxi]
structure TakeAsked (n : Int) (x : List Int) : Prop where
  ok : 0 ≤ n → n ≤ 1048576 → (x.length : Int) = 64 * n
  px : ∀ v ∈ x, 0 ≤ v ∧ v ≤ 255
theorem take_asked {n : Int} {x : List Int} (h : PySf26.take_asked n x = true) : TakeAsked n x := by
  have h1 := asked_one h
  simp only [asked1, Bool.and_eq_true, beq_iff_eq, List.all_eq_true, natural, decide_eq_true_eq, byte, within] at h1
  obtain ⟨_, ⟨l1, hx⟩⟩ := h1
  refine ⟨fun a b => ?_, hx⟩
  rw [if_pos ⟨a, b⟩] at l1
  exact l1
theorem take_no {n : Int} {x : List Int} (h : ¬ (0 ≤ n ∧ n ≤ 1048576)) : PySf26.take n x = [-1] := by
  have e : PySf26.take n x = listOf (Sf26.spec (.take n (natsOf x))) := rfl
  rw [e]
  unfold Sf26.spec
  rw [if_neg (by intro r; exact h (size_iff.mp r))]
  rfl
theorem take_yes {n : Int} {x : List Int} (q : TakeAsked n x) (h : 0 ≤ n ∧ n ≤ 1048576) : PySf26.take n x = 0 :: x := by
  have e : PySf26.take n x = listOf (Sf26.spec (.take n (natsOf x))) := rfl
  rw [e]
  unfold Sf26.spec
  rw [if_pos (by exact size_iff.mpr h)]
  show 0 :: (natsOf x).map (fun (k : Nat) => (k : Int)) = 0 :: x
  congr 1
  unfold natsOf
  rw [List.map_map]
  have : ∀ v ∈ x, ((fun (k : Nat) => (k : Int)) ∘ Int.toNat) v = v := fun v m => by
    have := (q.px v m).1
    show ((v.toNat : Nat) : Int) = v
    omega
  rw [List.map_congr_left this, List.map_id'']
  intro v; rfl
end My
open PySem PySem.W
namespace My
theorem said : PySem.Challenge.rw_smallrows_s10_take.wellSaid = true := by decide +kernel
abbrev Req (n : Int) (x : List Int) : Prop := PySem.Challenge.rw_smallrows_s10_take.pre [WData.int n, ofPy (PyData.list (x.map PyData.int))] = true
theorem opened {n : Int} {x : List Int} (h : Req n x) : TakeAsked n x := by
  obtain ⟨⟨n', x', u⟩, w, q, e⟩ := os_pre said h
  have e1 := os_j_int (List.cons.inj e).1
  have e2 := os_j_ints (List.cons.inj (List.cons.inj e).2).1
  subst e1 e2
  exact take_asked q
theorem shut {n : Int} {x : List Int} {a : List Int} (h : Req n x) (ea : a = PySf26.take n x) :
    PySem.Challenge.rw_smallrows_s10_take.post [WData.int n, ofPy (PyData.list (x.map PyData.int))] (ofPy (PyData.list (a.map PyData.int))) = true := by
  obtain ⟨⟨n', x', u⟩, w, q, e⟩ := os_pre said h
  have e1 := os_j_int (List.cons.inj e).1
  have e2 := os_j_ints (List.cons.inj (List.cons.inj e).2).1
  subst e1 e2
  rw [e]
  refine os_shut said w ?_
  subst ea
  exact os_list rfl
inductive Cases (n : Int) (x : List Int) : Prop where
  | low (h : n < 0)
  | high (h : 1048576 < n)
  | ok (h0 : 0 ≤ n) (h1 : n ≤ 1048576) (hx : (x.length : Int) = 64 * n)
theorem cases {n : Int} {x : List Int} (h : Req n x) : Cases n x := by
  have q := opened h
  by_cases h0 : 0 ≤ n
  · by_cases h1 : n ≤ 1048576
    · exact .ok h0 h1 (q.ok h0 h1)
    · exact .high (by omega)
  · exact .low (by omega)
end My
set_option maxRecDepth 100000 in
set_option maxHeartbeats 8000000 in
theorem PySem.Challenge.cw_smallrows_s10_take_holds : PySem.Challenge.rw_smallrows_s10_take.Holds := by
  w_on; k_headS
  case hw => exact ⟨[.int 0, .list []], by decide +kernel, by decide +kernel⟩
  w_strict (
    k_goS0
    rename PySem.Challenge.rw_smallrows_s10_take.pre _ = true => hc0
    cases My.cases hc0 with
    | low h => ((all_goals try k_fold); k_steps; (all_goals (try (w_end; sp_is; wrow_close))); all_goals (sp_left; exact My.shut (a := [-1]) hpre (My.take_no (by omega)).symm))
    | high h => ((all_goals try k_fold); k_steps; (all_goals (try (w_end; sp_is; wrow_close))); all_goals (sp_left; exact My.shut (a := [-1]) hpre (My.take_no (by omega)).symm))
    | ok h0 h1 hx => ((all_goals try k_fold); k_steps; (all_goals (try (w_end; sp_is; wrow_close))); all_goals (sp_left; refine My.shut hpre (My.take_yes (My.opened hpre) ⟨h0, h1⟩).symm)))
#print axioms PySem.Challenge.cw_smallrows_s10_take_holds
