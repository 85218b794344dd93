import PyProof.Rows.All
import KE.OsGo
import KE.OsArgs
import PySem.Challenge.RW_smallrows_s03_far
set_option Elab.async false
set_option maxRecDepth 100000
namespace My
open Sf26Neutral
theorem asked_one {c : Call} (h : asked [c] = true) : asked1 c = true := by
  simp only [asked, List.all_cons, List.all_nil, Bool.and_true, Bool.and_eq_true] at h
  exact h.1.2
theorem size_iff {n : Int} : Sf26.size n = true ↔ 0 ≤ n ∧ n ≤ 1048576 := by
  unfold Sf26.size Sf26.MOST
  rw [Bool.and_eq_true, decide_eq_true_eq, decide_eq_true_eq]
  exact Iff.rfl
theorem from_iff {z a b : Int} : Sf26.from_ z a b = true ↔ a ≤ z ∧ z ≤ b := by
  unfold Sf26.from_
  rw [Bool.and_eq_true, decide_eq_true_eq, decide_eq_true_eq]
theorem getD_of {P : Int → Prop} {l : List Int} (h : ∀ v ∈ l, P v) (i : Nat) (hi : i < l.length) : P (l.getD i 0) := by
  have e : l.getD i 0 = l[i] := by simp [List.getD, hi]
  rw [e]
  exact h _ (List.getElem_mem hi)
theorem getD_all {P : Int → Prop} {l : List Int} (h : ∀ v ∈ l, P v) (h0 : P 0) (i : Nat) : P (l.getD i 0) := by
  by_cases hi : i < l.length
  · exact getD_of h i hi
  · have e : l.getD i 0 = 0 := by simp [List.getD, hi]
    rw [e]; exact h0
theorem zip_range {β : Type} (x y : List Int) (g : Nat → Nat → β) (m : Nat) (hx : x.length = m) (hy : y.length = m) :
    ((natsOf x).zip (natsOf y)).map (fun p => g p.1 p.2) = (List.range m).map fun i => g (x.getD i 0).toNat (y.getD i 0).toNat := by
  apply List.ext_getElem
  · simp [natsOf, hx, hy]
  · intro i h1 h2
    have hi : i < m := by simpa using h2
    have hxi : i < x.length := by omega
    have hyi : i < y.length := by omega
    simp [natsOf, List.getD, hxi, hyi]
theorem nats_range {β : Type} (x : List Int) (g : Nat → β) (m : Nat) (hx : x.length = m) :
    (natsOf x).map g = (List.range m).map fun i => g (x.getD i 0).toNat := by
  apply List.ext_getElem
  · simp [natsOf, hx]
  · intro i h1 h2
    have hi : i < m := by simpa using h2
    have hxi : i < x.length := by omega
    simp [natsOf, List.getD, hxi]
structure FarAsked (n : Int) (x y : List Int) : Prop where
  ok : 0 ≤ n → n ≤ 1048576 → (x.length : Int) = 8 * n ∧ (y.length : Int) = 8 * n
  px : ∀ v ∈ x, 0 ≤ v ∧ v ≤ 255
  py : ∀ v ∈ y, 0 ≤ v ∧ v ≤ 255
theorem far_asked {n : Int} {x y : List Int} (h : PySf26.far_asked n x y = true) : FarAsked n x y := by
  have h1 := asked_one h
  simp only [asked1, Bool.and_eq_true, beq_iff_eq, List.all_eq_true, natural, decide_eq_true_eq, byte, within] at h1
  obtain ⟨_, ⟨⟨⟨l1, hx⟩, l2⟩, hy⟩⟩ := h1
  refine ⟨fun a b => ?_, hx, hy⟩
  rw [if_pos ⟨a, b⟩] at l1 l2
  exact ⟨l1, l2⟩
theorem far_no {n : Int} {x y : List Int} (h : ¬ (0 ≤ n ∧ n ≤ 1048576)) : PySf26.far n x y = [-1] := by
  have e : PySf26.far n x y = listOf (Sf26.spec (.far n (natsOf x) (natsOf y))) := rfl
  rw [e]
  unfold Sf26.spec
  rw [if_neg (by intro r; exact h (size_iff.mp r))]
  rfl
theorem far_yes {n : Int} {x y : List Int} (h : 0 ≤ n ∧ n ≤ 1048576) : PySf26.far n x y = 0 :: (((Sf26.groups 8 (natsOf x)).zip (Sf26.groups 8 (natsOf y))).flatMap fun p => Sf26.far p.1 p.2).map (fun (k : Nat) => (k : Int)) := by
  have e : PySf26.far n x y = listOf (Sf26.spec (.far n (natsOf x) (natsOf y))) := rfl
  rw [e]
  unfold Sf26.spec
  rw [if_pos (by exact size_iff.mpr h)]
  rfl
/-- groups by their places -/
theorem groups_len (k n : Nat) (hk : 0 < k) (l : List Nat) (h : l.length = k * n) : Sf26.groups k l = (List.range n).map fun i => (l.drop (k * i)).take k := by
  unfold Sf26.groups
  rw [h, Nat.mul_div_cancel_left n hk]
theorem natsOf_len (x : List Int) : (natsOf x).length = x.length := by simp [natsOf]
theorem group_at (x : List Int) (k g j : Nat) (hj : j < k) : (((natsOf x).drop (k * g)).take k).getD j 0 = (x.getD (k * g + j) 0).toNat := by
  simp only [List.getD, natsOf]
  rw [List.getElem?_take_of_lt hj, List.getElem?_drop, List.getElem?_map]
  cases x[k * g + j]? <;> rfl
theorem groups_flat {β : Type} (k n : Nat) (hk : 0 < k) (x : List Int) (h : x.length = k * n) (G : List Nat → List β) :
    (Sf26.groups k (natsOf x)).flatMap G = (List.range n).flatMap fun g => G (((natsOf x).drop (k * g)).take k) := by
  rw [groups_len k n hk _ (by rw [natsOf_len, h]), List.flatMap_map]
theorem groups_flat2 {β : Type} (k n : Nat) (hk : 0 < k) (x y : List Int) (hx : x.length = k * n) (hy : y.length = k * n) (G : List Nat → List Nat → List β) :
    ((Sf26.groups k (natsOf x)).zip (Sf26.groups k (natsOf y))).flatMap (fun p => G p.1 p.2) = (List.range n).flatMap fun g => G (((natsOf x).drop (k * g)).take k) (((natsOf y).drop (k * g)).take k) := by
  rw [groups_len k n hk _ (by rw [natsOf_len, hx]), groups_len k n hk _ (by rw [natsOf_len, hy]), List.zip_map', List.flatMap_map]
/-- what stands behind the 0 after k groups -/
structure ToldG (F : Nat → List Int) (k : Nat) (a : List Int) : Prop where
  eq : a = 0 :: (List.range k).flatMap F
theorem toldG_start {F : Nat → List Int} : ToldG F 0 [0] := ⟨rfl⟩
theorem toldG_turn {F : Nat → List Int} {a l : List Int} {k : Nat} (h : ToldG F k a) (hl : l = F k) : ToldG F (k + 1) (a ++ l) := by
  refine ⟨?_⟩
  rw [List.range_succ, List.flatMap_append, h.eq, hl]
  simp
/-- far of group g -/
def ap (a b : Int) : Int := if a < b then b - a else a - b
def far4 (x y : List Int) (i j : Nat) : Int := ap (x.getD i 0) (y.getD j 0) + ap (x.getD (i + 1) 0) (y.getD (j + 1) 0) + ap (x.getD (i + 2) 0) (y.getD (j + 2) 0) + ap (x.getD (i + 3) 0) (y.getD (j + 3) 0)
theorem apart_ap {a b : Int} (ha : 0 ≤ a) (hb : 0 ≤ b) : ((Sf26.apart a.toNat b.toNat : Nat) : Int) = ap a b := by
  unfold Sf26.apart ap
  split <;> omega
def farG (x y : List Int) (g : Nat) : List Int := [far4 x y (8 * g) (8 * g), far4 x y (8 * g) (8 * g + 1), far4 x y (8 * g + 4) (8 * g + 2), far4 x y (8 * g + 4) (8 * g + 3)]
theorem far4_group {x y : List Int} {g i j : Nat} (hx : ∀ i, 0 ≤ x.getD i 0) (hy : ∀ i, 0 ≤ y.getD i 0) (hi : i ≤ 4) (hj : j ≤ 4) :
    ((Sf26.far4 (((natsOf x).drop (8 * g)).take 8) (((natsOf y).drop (8 * g)).take 8) i j : Nat) : Int) = far4 x y (8 * g + i) (8 * g + j) := by
  have e : List.range 4 = [0, 1, 2, 3] := rfl
  unfold Sf26.far4
  rw [e]
  simp only [List.map_cons, List.map_nil, List.sum_cons, List.sum_nil]
  rw [group_at x 8 g (i + 0) (by omega), group_at x 8 g (i + 1) (by omega), group_at x 8 g (i + 2) (by omega), group_at x 8 g (i + 3) (by omega),
    group_at y 8 g (j + 0) (by omega), group_at y 8 g (j + 1) (by omega), group_at y 8 g (j + 2) (by omega), group_at y 8 g (j + 3) (by omega)]
  simp only [Int.natCast_add, apart_ap (hx _) (hy _)]
  unfold far4
  simp only [Nat.add_zero, Nat.add_assoc]
  omega
theorem cast_flat (n : Nat) (G : Nat → List Nat) (F : Nat → List Int) (h : ∀ g, g < n → (G g).map (fun (k : Nat) => (k : Int)) = F g) :
    ((List.range n).flatMap G).map (fun (k : Nat) => (k : Int)) = (List.range n).flatMap F := by
  induction n with
  | zero => rfl
  | succ m ih =>
    rw [List.range_succ, List.flatMap_append, List.flatMap_append, List.map_append, ih (fun g hg => h g (by omega))]
    simp [h m (by omega)]
theorem nn_all {P : Int → Prop} {l : List Int} (h : ∀ v ∈ l, 0 ≤ v ∧ P v) (i : Nat) : 0 ≤ l.getD i 0 := getD_all (P := fun v => 0 ≤ v) (fun v m => (h v m).1) (Int.le_refl 0) i
theorem far_end {n : Int} {x y a : List Int} (q : FarAsked n x y) (h0 : 0 ≤ n) (h1 : n ≤ 1048576) {m : Nat} (hm : (m : Int) = n) (t : ToldG (farG x y) m a) : a = PySf26.far n x y := by
  obtain ⟨lx, ly⟩ := q.ok h0 h1
  rw [t.eq, far_yes ⟨h0, h1⟩, groups_flat2 8 m (by decide) x y (by omega) (by omega) Sf26.far]
  congr 1
  symm
  apply cast_flat
  intro g _
  unfold Sf26.far farG
  simp only [List.map_cons, List.map_nil]
  have hx := nn_all q.px
  have hy := nn_all q.py
  rw [far4_group hx hy (by decide) (by decide), far4_group hx hy (by decide) (by decide), far4_group hx hy (by decide) (by decide), far4_group hx hy (by decide) (by decide)]
  rfl
@[irreducible] def abI (z : Int) : Int := if z < 0 then -z else z
def fourP (x : List Int) (i : Int) (y : List Int) (j : Int) : Nat → Int
  | 0 => 0
  | k + 1 => fourP x i y j k + (if x.getD (i + (k : Int)).toNat 0 - y.getD (j + (k : Int)).toNat 0 < 0 then -(x.getD (i + (k : Int)).toNat 0 - y.getD (j + (k : Int)).toNat 0) else x.getD (i + (k : Int)).toNat 0 - y.getD (j + (k : Int)).toNat 0)
@[irreducible] def fourI (x : List Int) (i : Int) (y : List Int) (j : Int) : Int := fourP x i y j 4
structure FourTold (x : List Int) (i : Int) (y : List Int) (j : Int) (k : Nat) (t : Int) : Prop where
  eq : t = fourP x i y j k
theorem four_start {x y : List Int} {i j : Int} : FourTold x i y j ([] : List Int).length 0 := ⟨rfl⟩
theorem four_turn {x y pre : List Int} {i j k t : Int} (h : FourTold x i y j pre.length t) (hk : k = 0 + (pre.length : Int)) :
    FourTold x i y j (pre ++ [k]).length (t + (if x.getD (i + k).toNat 0 - y.getD (j + k).toNat 0 < 0 then -(x.getD (i + k).toNat 0 - y.getD (j + k).toNat 0) else x.getD (i + k).toNat 0 - y.getD (j + k).toNat 0)) := by
  have l : (pre ++ [k]).length = pre.length + 1 := by simp
  have e : k = (pre.length : Int) := by omega
  rw [l, h.eq, e]
  exact ⟨rfl⟩
theorem four_end {x y : List Int} {i j t : Int} {m : Nat} (h : FourTold x i y j m t) (hm : m = 4) : t = fourI x i y j := by
  unfold fourI
  rw [h.eq, hm]
theorem ab_ap (a b : Int) : (if a - b < 0 then -(a - b) else a - b) = ap a b := by
  unfold ap
  split <;> split <;> omega
theorem four_far (x y : List Int) (i j : Nat) : fourI x (i : Int) y (j : Int) = far4 x y i j := by
  unfold fourI far4
  simp only [fourP]
  have e0 (k : Nat) : ((k : Int) + ((0 : Nat) : Int)).toNat = k := by omega
  have e1 (k : Nat) : ((k : Int) + ((1 : Nat) : Int)).toNat = k + 1 := by omega
  have e2 (k : Nat) : ((k : Int) + ((2 : Nat) : Int)).toNat = k + 2 := by omega
  have e3 (k : Nat) : ((k : Int) + ((3 : Nat) : Int)).toNat = k + 3 := by omega
  simp only [ab_ap, e0, e1, e2, e3]
  omega
structure FarTold (F : Nat → List Int) (k : Nat) (a : List Int) : Prop where
  told : ToldG F k a
theorem far_start {F : Nat → List Int} : [(0 : Int)].length = 4 * ([] : List Int).length + 1 ∧ ToldG F ([] : List Int).length [0] := ⟨rfl, toldG_start⟩
theorem far_turn {x y a pre : List Int} {k : Int} (h : ToldG (farG x y) pre.length a) (hl : a.length = 4 * pre.length + 1) (hk : k = 0 + (pre.length : Int)) :
    (a ++ [fourI x (8 * k) y (8 * k)] ++ [fourI x (8 * k) y (8 * k + 1)] ++ [fourI x (8 * k + 4) y (8 * k + 2)] ++ [fourI x (8 * k + 4) y (8 * k + 3)]).length = 4 * (pre ++ [k]).length + 1 ∧
    ToldG (farG x y) (pre ++ [k]).length (a ++ [fourI x (8 * k) y (8 * k)] ++ [fourI x (8 * k) y (8 * k + 1)] ++ [fourI x (8 * k + 4) y (8 * k + 2)] ++ [fourI x (8 * k + 4) y (8 * k + 3)]) := by
  have l : (pre ++ [k]).length = pre.length + 1 := by simp
  have e0 : (8 * k : Int) = ((8 * pre.length : Nat) : Int) := by omega
  have e1 : (8 * k + 1 : Int) = ((8 * pre.length + 1 : Nat) : Int) := by omega
  have e2 : (8 * k + 2 : Int) = ((8 * pre.length + 2 : Nat) : Int) := by omega
  have e3 : (8 * k + 3 : Int) = ((8 * pre.length + 3 : Nat) : Int) := by omega
  have e4 : (8 * k + 4 : Int) = ((8 * pre.length + 4 : Nat) : Int) := by omega
  rw [l, e1, e2, e3, e4, e0]
  simp only [four_far]
  refine ⟨by simp only [List.length_append, List.length_cons, List.length_nil, hl]; omega, ?_⟩
  simp only [List.append_assoc, List.cons_append, List.nil_append]
  exact toldG_turn h rfl
end My
open PySem PySem.W
namespace My
theorem said : PySem.Challenge.rw_smallrows_s03_far.wellSaid = true := by decide +kernel
abbrev Req (n : Int) (x : List Int) (y : List Int) : Prop := PySem.Challenge.rw_smallrows_s03_far.pre [WData.int n, ofPy (PyData.list (x.map PyData.int)), ofPy (PyData.list (y.map PyData.int))] = true
theorem opened {n : Int} {x : List Int} {y : List Int} (h : Req n x y) : FarAsked n x y := by
  obtain ⟨⟨n', x', y', u⟩, w, q, e⟩ := os_pre said h
  have e1 := os_j_int (List.cons.inj e).1
  have e2 := os_j_ints (List.cons.inj (List.cons.inj e).2).1
  have e3 := os_j_ints (List.cons.inj (List.cons.inj (List.cons.inj e).2).2).1
  subst e1 e2 e3
  exact far_asked q
theorem shut {n : Int} {x : List Int} {y : List Int} {a : List Int} (h : Req n x y) (ea : a = PySf26.far n x y) :
    PySem.Challenge.rw_smallrows_s03_far.post [WData.int n, ofPy (PyData.list (x.map PyData.int)), ofPy (PyData.list (y.map PyData.int))] (ofPy (PyData.list (a.map PyData.int))) = true := by
  obtain ⟨⟨n', x', y', u⟩, w, q, e⟩ := os_pre said h
  have e1 := os_j_int (List.cons.inj e).1
  have e2 := os_j_ints (List.cons.inj (List.cons.inj e).2).1
  have e3 := os_j_ints (List.cons.inj (List.cons.inj (List.cons.inj e).2).2).1
  subst e1 e2 e3
  rw [e]
  refine os_shut said w ?_
  subst ea
  exact os_list rfl
abbrev argF {n : Int} {x y : List Int} (_ : Req n x y) : Nat → List Int := farG x y
inductive Cases (n : Int) (x y : List Int) : Prop where
  | low (h : n < 0)
  | high (h : 1048576 < n)
  | ok (h0 : 0 ≤ n) (h1 : n ≤ 1048576) (hx : (x.length : Int) = 8 * n) (hy : (y.length : Int) = 8 * n)
theorem cases {n : Int} {x y : List Int} (h : Req n x y) : Cases n x y := by
  have q := opened h
  by_cases h0 : 0 ≤ n
  · by_cases h1 : n ≤ 1048576
    · exact .ok h0 h1 (q.ok h0 h1).1 (q.ok h0 h1).2
    · exact .high (by omega)
  · exact .low (by omega)
end My
open PyProof.Rows in
local macro_rules | `(tactic| walk_at "call builtin:list.append") => `(tactic| (k_here; (with_reducible show wpAny _ _ (call (Value.builtin _) [Value.ref _, _]) _ _ _); k_dflt (refine' append_K ?k1 ?k2 ?k3 ?_ ?z; (case k1 => k_asm); (case k2 => k_asm); (case k3 => k_upd); (case z => (simp only [List.size_toArray, PySem.sizeLine_eq]; omega)); k_whole); intro h' F' N'; (try k_sweep)))
local macro_rules | `(tactic| walk_at "call type:range") => `(tactic| (k_here; k_dflt (exfalso; omega)))
namespace My
open PyProof.Rows
theorem unr_end {h₀ : Heap} {L I : Addr} {it : Obj} {rest : (Str → Option Value) → List (Addr × Obj) → Prop} {s₁ : Shared} {h' : Heap} {tk : Nat} {m' : Str → Option Value} {news : List (Addr × Obj)} (F : Fr h₀ L h' m')
    (N : News h₀ L h' ((I, it) :: news)) (l1 : ∀ p ∈ news, p.1 < I) (r : rest m' news) : UnrEnd h₀ L s₁ I it rest { s₁ with heap := h', toks := tk } :=
  UnrEnd.intro F N news (fun _ h => h) (fun p hp => Nat.ne_of_lt (l1 p hp)) r
end My
local macro_rules | `(tactic| walk_at "UnrEnd") => `(tactic| (refine My.unr_end (by assumption) (by assumption) (by assumption) ?_))
set_option maxRecDepth 100000 in
set_option maxHeartbeats 8000000 in
theorem PySem.Challenge.cw_smallrows_s03_far_holds : PySem.Challenge.rw_smallrows_s03_far.Holds := by
  k_with "call ref" => k_call_by "four_apart" My.fourI (fun (x : List Int) (i : Int) (y : List Int) (j : Int) => 0 ≤ i ∧ i + 4 ≤ (x.length : Int) ∧ 0 ≤ j ∧ j + 4 ≤ (y.length : Int))
  k_with "tree" => simp only [My.fourI, My.fourP]
  k_with "state" => first
    | exact My.far_start
    | exact My.four_start
    | exact My.four_turn (by assumption) (by assumption)
    | exact My.far_turn (by assumption) (by assumption) (by assumption)
  k_with "pyIter ref" => (k_of "g" => k_state (fun pre answer => answer.length = 4 * pre.length + 1 ∧ My.ToldG (My.argF hc0) pre.length answer) "answer")
  w_on; k_headS
  case hw => exact ⟨[.int 0, .list [], .list []], by decide +kernel, by decide +kernel⟩
  w_strict (
    k_goS0
    rename PySem.Challenge.rw_smallrows_s03_far.pre _ = true => hc0
    cases My.cases hc0 with
    | low h => ((all_goals try k_fold); k_steps; (all_goals (try (w_end; sp_is; wrow_close))); all_goals (sp_left; exact My.shut (a := [-1]) hpre (My.far_no (by omega)).symm))
    | high h => ((all_goals try k_fold); k_steps; (all_goals (try (w_end; sp_is; wrow_close))); all_goals (sp_left; exact My.shut (a := [-1]) hpre (My.far_no (by omega)).symm))
    | ok h0 h1 hx hy => ((all_goals try k_fold); k_steps; (all_goals (try (w_end; sp_is; wrow_close))); all_goals (sp_left; refine My.shut hpre (My.far_end (My.opened hpre) h0 h1 ?_ (by assumption)); simp only [rangeKs_length]; omega)))
#print axioms PySem.Challenge.cw_smallrows_s03_far_holds
