import PyProof.Rows.All
import KE.OsGo
import KE.OsArgs
import PySem.Challenge.RW_smallrows_s08_marks
set_option Elab.async false
set_option maxRecDepth 100000
namespace My
open Sf26Neutral
theorem asked_one {c : Call} (h : asked [c] = true) : asked1 c = true := by
  simp only [asked, List.all_cons, List.all_nil, Bool.and_true, Bool.and_eq_true] at h
  exact h.1.2
theorem size_iff {n : Int} : Sf26.size n = true ↔ 0 ≤ n ∧ n ≤ 1048576 := by
  unfold Sf26.size Sf26.MOST
  rw [Bool.and_eq_true, decide_eq_true_eq, decide_eq_true_eq]
  exact Iff.rfl
theorem from_iff {z a b : Int} : Sf26.from_ z a b = true ↔ a ≤ z ∧ z ≤ b := by
  unfold Sf26.from_
  rw [Bool.and_eq_true, decide_eq_true_eq, decide_eq_true_eq]
theorem getD_of {P : Int → Prop} {l : List Int} (h : ∀ v ∈ l, P v) (i : Nat) (hi : i < l.length) : P (l.getD i 0) := by
  have e : l.getD i 0 = l[i] := by simp [List.getD, hi]
  rw [e]
  exact h _ (List.getElem_mem hi)
theorem getD_all {P : Int → Prop} {l : List Int} (h : ∀ v ∈ l, P v) (h0 : P 0) (i : Nat) : P (l.getD i 0) := by
  by_cases hi : i < l.length
  · exact getD_of h i hi
  · have e : l.getD i 0 = 0 := by simp [List.getD, hi]
    rw [e]; exact h0
theorem zip_range {β : Type} (x y : List Int) (g : Nat → Nat → β) (m : Nat) (hx : x.length = m) (hy : y.length = m) :
    ((natsOf x).zip (natsOf y)).map (fun p => g p.1 p.2) = (List.range m).map fun i => g (x.getD i 0).toNat (y.getD i 0).toNat := by
  apply List.ext_getElem
  · simp [natsOf, hx, hy]
  · intro i h1 h2
    have hi : i < m := by simpa using h2
    have hxi : i < x.length := by omega
    have hyi : i < y.length := by omega
    simp [natsOf, List.getD, hxi, hyi]
theorem nats_range {β : Type} (x : List Int) (g : Nat → β) (m : Nat) (hx : x.length = m) :
    (natsOf x).map g = (List.range m).map fun i => g (x.getD i 0).toNat := by
  apply List.ext_getElem
  · simp [natsOf, hx]
  · intro i h1 h2
    have hi : i < m := by simpa using h2
    have hxi : i < x.length := by omega
    simp [natsOf, List.getD, hxi]
structure MarksAsked (n key : Int) (x : List Int) : Prop where
  ok : 0 ≤ n → n ≤ 1048576 → (x.length : Int) = 16 * n
  pk : 0 ≤ key
  pk2 : key ≤ 4294967295
  px : ∀ v ∈ x, 0 ≤ v ∧ v ≤ 4294967295
theorem marks_asked {n key : Int} {x : List Int} (h : PySf26.marks_asked n key x = true) : MarksAsked n key x := by
  have h1 := asked_one h
  simp only [asked1, Bool.and_eq_true, beq_iff_eq, List.all_eq_true, natural, decide_eq_true_eq, u32, within] at h1
  obtain ⟨⟨⟨_, hk⟩, _⟩, ⟨l1, hx⟩⟩ := h1
  refine ⟨fun a b => ?_, hk.1, by have := hk.2; omega, hx⟩
  rw [if_pos ⟨a, b⟩] at l1
  exact l1
theorem marks_no {n key : Int} {x : List Int} (h : ¬ (0 ≤ n ∧ n ≤ 1048576)) : PySf26.marks n key x = [-1] := by
  have e : PySf26.marks n key x = listOf (Sf26.spec (.marks n key.toNat (natsOf x))) := rfl
  rw [e]
  unfold Sf26.spec
  rw [if_neg (by intro r; exact h (size_iff.mp r))]
  rfl
theorem marks_yes {n key : Int} {x : List Int} (h : 0 ≤ n ∧ n ≤ 1048576) : PySf26.marks n key x = 0 :: ((Sf26.groups 16 (natsOf x)).flatMap (Sf26.marks key.toNat)).map (fun (k : Nat) => (k : Int)) := by
  have e : PySf26.marks n key x = listOf (Sf26.spec (.marks n key.toNat (natsOf x))) := rfl
  rw [e]
  unfold Sf26.spec
  rw [if_pos (by exact size_iff.mpr h)]
  rfl
/-- groups by their places -/
theorem groups_len (k n : Nat) (hk : 0 < k) (l : List Nat) (h : l.length = k * n) : Sf26.groups k l = (List.range n).map fun i => (l.drop (k * i)).take k := by
  unfold Sf26.groups
  rw [h, Nat.mul_div_cancel_left n hk]
theorem natsOf_len (x : List Int) : (natsOf x).length = x.length := by simp [natsOf]
theorem group_at (x : List Int) (k g j : Nat) (hj : j < k) : (((natsOf x).drop (k * g)).take k).getD j 0 = (x.getD (k * g + j) 0).toNat := by
  simp only [List.getD, natsOf]
  rw [List.getElem?_take_of_lt hj, List.getElem?_drop, List.getElem?_map]
  cases x[k * g + j]? <;> rfl
theorem groups_flat {β : Type} (k n : Nat) (hk : 0 < k) (x : List Int) (h : x.length = k * n) (G : List Nat → List β) :
    (Sf26.groups k (natsOf x)).flatMap G = (List.range n).flatMap fun g => G (((natsOf x).drop (k * g)).take k) := by
  rw [groups_len k n hk _ (by rw [natsOf_len, h]), List.flatMap_map]
theorem groups_flat2 {β : Type} (k n : Nat) (hk : 0 < k) (x y : List Int) (hx : x.length = k * n) (hy : y.length = k * n) (G : List Nat → List Nat → List β) :
    ((Sf26.groups k (natsOf x)).zip (Sf26.groups k (natsOf y))).flatMap (fun p => G p.1 p.2) = (List.range n).flatMap fun g => G (((natsOf x).drop (k * g)).take k) (((natsOf y).drop (k * g)).take k) := by
  rw [groups_len k n hk _ (by rw [natsOf_len, hx]), groups_len k n hk _ (by rw [natsOf_len, hy]), List.zip_map', List.flatMap_map]
/-- what stands behind the 0 after k groups -/
structure ToldG (F : Nat → List Int) (k : Nat) (a : List Int) : Prop where
  eq : a = 0 :: (List.range k).flatMap F
theorem toldG_start {F : Nat → List Int} : ToldG F 0 [0] := ⟨rfl⟩
theorem toldG_turn {F : Nat → List Int} {a l : List Int} {k : Nat} (h : ToldG F k a) (hl : l = F k) : ToldG F (k + 1) (a ++ l) := by
  refine ⟨?_⟩
  rw [List.range_succ, List.flatMap_append, h.eq, hl]
  simp
theorem cast_flat (n : Nat) (G : Nat → List Nat) (F : Nat → List Int) (h : ∀ g, g < n → (G g).map (fun (k : Nat) => (k : Int)) = F g) :
    ((List.range n).flatMap G).map (fun (k : Nat) => (k : Int)) = (List.range n).flatMap F := by
  induction n with
  | zero => rfl
  | succ m ih =>
    rw [List.range_succ, List.flatMap_append, List.flatMap_append, List.map_append, ih (fun g hg => h g (by omega))]
    simp [h m (by omega)]
theorem nn_all {P : Int → Prop} {l : List Int} (h : ∀ v ∈ l, 0 ≤ v ∧ P v) (i : Nat) : 0 ≤ l.getD i 0 := getD_all (P := fun v => 0 ≤ v) (fun v m => (h v m).1) (Int.le_refl 0) i
def markG (key : Int) (x : List Int) (g : Nat) : Int := ((List.range 16).map fun (j : Nat) => if x.getD (16 * g + j) 0 = key then (2 : Int) ^ j else 0).sum
def marksG (key : Int) (x : List Int) (g : Nat) : List Int := List.replicate 16 (markG key x g)
theorem cast_sum (l : List Nat) : ((l.sum : Nat) : Int) = (l.map fun (k : Nat) => (k : Int)).sum := by
  induction l with
  | nil => rfl
  | cons a l ih => simp [ih]
theorem mark_at {x : List Int} {key : Int} (hx : ∀ i, 0 ≤ x.getD i 0) (hk : 0 ≤ key) (g : Nat) :
    ((((List.range 16).map fun j => if (((natsOf x).drop (16 * g)).take 16).getD j 0 = key.toNat then 2 ^ j else 0).sum : Nat) : Int) = markG key x g := by
  unfold markG
  rw [cast_sum, List.map_map]
  apply congrArg
  apply List.map_congr_left
  intro j hj
  have hj : j < 16 := List.mem_range.mp hj
  have hx := hx (16 * g + j)
  rw [Function.comp_apply, group_at x 16 g j hj]
  by_cases c : x.getD (16 * g + j) 0 = key
  · rw [if_pos c, if_pos (by rw [c]), Int.natCast_pow]
    rfl
  · rw [if_neg c, if_neg (by omega)]
    rfl
theorem marks_at {x : List Int} {key : Int} (hx : ∀ i, 0 ≤ x.getD i 0) (hk : 0 ≤ key) (g : Nat) :
    (Sf26.marks key.toNat (((natsOf x).drop (16 * g)).take 16)).map (fun (k : Nat) => (k : Int)) = marksG key x g := by
  rw [show Sf26.marks key.toNat (((natsOf x).drop (16 * g)).take 16) = List.replicate 16 (((List.range 16).map fun j => if (((natsOf x).drop (16 * g)).take 16).getD j 0 = key.toNat then 2 ^ j else 0).sum) from by unfold Sf26.marks; with_reducible rfl, List.map_replicate, mark_at hx hk g]
  rfl
theorem marks_end {n key : Int} {x a : List Int} (q : MarksAsked n key x) (h0 : 0 ≤ n) (h1 : n ≤ 1048576) {m : Nat} (hm : (m : Int) = n) (t : ToldG (marksG key x) m a) : a = PySf26.marks n key x := by
  have lx := q.ok h0 h1
  rw [t.eq, marks_yes ⟨h0, h1⟩, groups_flat 16 m (by decide) x (by omega), cast_flat m _ _ (fun g _ => marks_at (nn_all q.px) q.pk g)]
def markP (key : Int) (x : List Int) (start : Int) : Nat → Int
  | 0 => 0
  | k + 1 => markP key x start k + (if x.getD (start + (k : Int)).toNat 0 = key then 2 ^ k else 0)
@[irreducible] def markI (key : Int) (x : List Int) (start : Int) : Int := markP key x start 16
structure MarkTold (f : Nat → Int) (k : Nat) (marked bit : Int) : Prop where
  m : marked = f k
  b : bit = 2 ^ k
abbrev MarkPre (key : Int) (x : List Int) (start : Int) : Prop := 0 ≤ start ∧ start + 16 ≤ (x.length : Int) ∧ 0 ≤ key
abbrev mpF {key start : Int} {x : List Int} (_ : MarkPre key x start) : Nat → Int := markP key x start
theorem mark_start {key : Int} {x : List Int} {start : Int} : 0 ≤ (1 : Int) ∧ (1 : Int) ≤ 65536 ∧ MarkTold (markP key x start) ([] : List Int).length 0 1 := ⟨by decide, by decide, ⟨rfl, rfl⟩⟩
theorem pow_le {k : Nat} (h : k < 16) : (2 : Int) ^ k * 2 ≤ 65536 := by
  have : ∀ k : Fin 16, (2 : Int) ^ k.val * 2 ≤ 65536 := by decide
  exact this ⟨k, h⟩
theorem mark_yes {key : Int} {x pre : List Int} {start k marked bit : Int} (h : MarkTold (markP key x start) pre.length marked bit) (hk : k = 0 + (pre.length : Int)) (hc : x.getD (start + k).toNat 0 = key) (h0 : 0 ≤ bit) (hl : pre.length < 16) :
    0 ≤ bit * 2 ∧ bit * 2 ≤ 65536 ∧ MarkTold (markP key x start) (pre ++ [k]).length (marked + bit) (bit * 2) := by
  have l : (pre ++ [k]).length = pre.length + 1 := by simp
  have e : k = (pre.length : Int) := by omega
  rw [l]
  refine ⟨by omega, by rw [h.b]; exact pow_le hl, ⟨?_, by rw [h.b, Int.pow_succ]⟩⟩
  rw [markP, ← e, if_pos hc, h.m, h.b]
theorem mark_no {key : Int} {x pre : List Int} {start k marked bit : Int} (h : MarkTold (markP key x start) pre.length marked bit) (hk : k = 0 + (pre.length : Int)) (hc : x.getD (start + k).toNat 0 ≠ key) (h0 : 0 ≤ bit) (hl : pre.length < 16) :
    0 ≤ bit * 2 ∧ bit * 2 ≤ 65536 ∧ MarkTold (markP key x start) (pre ++ [k]).length marked (bit * 2) := by
  have l : (pre ++ [k]).length = pre.length + 1 := by simp
  have e : k = (pre.length : Int) := by omega
  rw [l]
  refine ⟨by omega, by rw [h.b]; exact pow_le hl, ⟨?_, by rw [h.b, Int.pow_succ]⟩⟩
  rw [markP, ← e, if_neg hc, h.m, Int.add_zero]
theorem mark_end {key : Int} {x : List Int} {start marked bit : Int} {m : Nat} (h : MarkTold (markP key x start) m marked bit) (hm : m = 16) : marked = markI key x start := by
  unfold markI
  rw [h.m, hm]
theorem markP_sum (key : Int) (x : List Int) (start : Nat) (m : Nat) : markP key x (start : Int) m = ((List.range m).map fun (j : Nat) => if x.getD (start + j) 0 = key then (2 : Int) ^ j else 0).sum := by
  induction m with
  | zero => rfl
  | succ m ih =>
    rw [List.range_succ, List.map_append, List.sum_append, markP, ih]
    have e : ((start : Int) + (m : Int)).toNat = start + m := by omega
    rw [e]
    simp
theorem markI_G {key : Int} {x : List Int} {k : Int} {g : Nat} (hk : k = 0 + (g : Int)) : markI key x (16 * k) = markG key x g := by
  unfold markI markG
  rw [show (16 * k : Int) = ((16 * g : Nat) : Int) from by omega, markP_sum]
theorem marks_start {F : Nat → List Int} : [(0 : Int)].length = 16 * ([] : List Int).length + 1 ∧ ToldG F ([] : List Int).length [0] := ⟨rfl, toldG_start⟩
theorem marks_turn {key : Int} {x a pre : List Int} {k v : Int} (h : ToldG (marksG key x) pre.length a) (hl : a.length = 16 * pre.length + 1) (hk : k = 0 + (pre.length : Int)) (hv : v = markI key x (16 * k)) :
    (a ++ [v] ++ [v] ++ [v] ++ [v] ++ [v] ++ [v] ++ [v] ++ [v] ++ [v] ++ [v] ++ [v] ++ [v] ++ [v] ++ [v] ++ [v] ++ [v]).length = 16 * (pre ++ [k]).length + 1 ∧
    ToldG (marksG key x) (pre ++ [k]).length (a ++ [v] ++ [v] ++ [v] ++ [v] ++ [v] ++ [v] ++ [v] ++ [v] ++ [v] ++ [v] ++ [v] ++ [v] ++ [v] ++ [v] ++ [v] ++ [v]) := by
  have l : (pre ++ [k]).length = pre.length + 1 := by simp
  rw [l]
  refine ⟨by simp only [List.length_append, List.length_cons, List.length_nil, hl]; omega, ?_⟩
  simp only [List.append_assoc, List.cons_append, List.nil_append]
  refine toldG_turn h ?_
  unfold marksG
  rw [hv, markI_G hk]
  rfl
end My
open PySem PySem.W
namespace My
theorem said : PySem.Challenge.rw_smallrows_s08_marks.wellSaid = true := by decide +kernel
abbrev Req (n : Int) (key : Int) (x : List Int) : Prop := PySem.Challenge.rw_smallrows_s08_marks.pre [WData.int n, WData.int key, ofPy (PyData.list (x.map PyData.int))] = true
theorem opened {n : Int} {key : Int} {x : List Int} (h : Req n key x) : MarksAsked n key x := by
  obtain ⟨⟨n', key', x', u⟩, w, q, e⟩ := os_pre said h
  have e1 := os_j_int (List.cons.inj e).1
  have e2 := os_j_int (List.cons.inj (List.cons.inj e).2).1
  have e3 := os_j_ints (List.cons.inj (List.cons.inj (List.cons.inj e).2).2).1
  subst e1 e2 e3
  exact marks_asked q
theorem shut {n : Int} {key : Int} {x : List Int} {a : List Int} (h : Req n key x) (ea : a = PySf26.marks n key x) :
    PySem.Challenge.rw_smallrows_s08_marks.post [WData.int n, WData.int key, ofPy (PyData.list (x.map PyData.int))] (ofPy (PyData.list (a.map PyData.int))) = true := by
  obtain ⟨⟨n', key', x', u⟩, w, q, e⟩ := os_pre said h
  have e1 := os_j_int (List.cons.inj e).1
  have e2 := os_j_int (List.cons.inj (List.cons.inj e).2).1
  have e3 := os_j_ints (List.cons.inj (List.cons.inj (List.cons.inj e).2).2).1
  subst e1 e2 e3
  rw [e]
  refine os_shut said w ?_
  subst ea
  exact os_list rfl
abbrev argF {n key : Int} {x : List Int} (_ : Req n key x) : Nat → List Int := marksG key x
inductive Cases (n key : Int) (x : List Int) : Prop where
  | low (h : n < 0)
  | high (h : 1048576 < n)
  | ok (h0 : 0 ≤ n) (h1 : n ≤ 1048576) (h2 : 0 ≤ key) (h3 : key ≤ 4294967295) (hx : (x.length : Int) = 16 * n) (hs : x.length ≤ 30000)
theorem short {n key : Int} {x : List Int} (h : Req n key x) : x.length ≤ 30000 := by
  obtain ⟨⟨n', k', x', u⟩, w, q, e⟩ := os_pre said h
  have e1 := os_j_int (List.cons.inj e).1
  have e2 := os_j_int (List.cons.inj (List.cons.inj e).2).1
  have e3 := os_j_ints (List.cons.inj (List.cons.inj (List.cons.inj e).2).2).1
  subst e1 e2 e3
  have w1 : (_ && (_ && (((decide (0 ≤ x.length) && decide (x.length ≤ 30000)) && _) && true))) = true := w
  simp only [Bool.and_eq_true, decide_eq_true_eq] at w1
  exact w1.2.2.1.1.2
theorem cases {n key : Int} {x : List Int} (h : Req n key x) : Cases n key x := by
  have q := opened h
  by_cases h0 : 0 ≤ n
  · by_cases h1 : n ≤ 1048576
    · exact .ok h0 h1 q.pk q.pk2 (q.ok h0 h1) (short h)
    · exact .high (by omega)
  · exact .low (by omega)
open PyProof.Rows
theorem ext16 {prog : Program} {w : World} {A : Around} {E : Value → Shared → Prop} {s : Shared} {h₀ : Heap} {L D b : Addr} {m : Str → Option Value} {news news' : List (Addr × Obj)} {its : Array Value} {n n2 : Nat} {v : Value} {Q : Value → Shared → Prop}
    (F : Fr h₀ L s.heap m) (N : News h₀ L s.heap news) (hb : (b, listOf [v, v, v, v, v, v, v, v, v, v, v, v, v, v, v, v].toArray n2) ∈ news)
    (U : Upd D (listOf its n) (listOf ((((((((((((((((its.push v).push v).push v).push v).push v).push v).push v).push v).push v).push v).push v).push v).push v).push v).push v).push v) (n + 1)) news news')
    (h : ∀ h', Fr h₀ L h' m → News h₀ L h' news' → Q .none { s with heap := h' }) (hsz : its.size ≤ 100000) : wpAny (model prog w) A (call (.builtin "list.extend") [.ref D, .ref b]) Q E s := by
  refine kl_extend (n := n) (l := its.toList ++ [v, v, v, v, v, v, v, v, v, v, v, v, v, v, v, v]) F N hb rfl (Nat.succ_ne_zero _) ?_ ?_ ?_ ?_ h
  · have e : (its.toList ++ [v, v, v, v, v, v, v, v, v, v, v, v, v, v, v, v]).toArray = ((((((((((((((((its.push v).push v).push v).push v).push v).push v).push v).push v).push v).push v).push v).push v).push v).push v).push v).push v) := by
      apply Array.toList_inj.mp
      simp
    rw [e]
    exact U
  · simp [Builtin.List.listTooLong, sizeLine]
    omega
  · rw [Array.length_toList, sizeLine_eq]
    omega
  · rw [sizeLine_eq]
    simp
    omega
end My
open PyProof.Rows in
local macro_rules | `(tactic| walk_at "call builtin:list.append") => `(tactic| (k_here; (with_reducible show wpAny _ _ (call (Value.builtin _) [Value.ref _, _]) _ _ _); k_dflt (refine' append_K ?k1 ?k2 ?k3 ?_ ?z; (case k1 => k_asm); (case k2 => k_asm); (case k3 => k_upd); (case z => (simp only [List.size_toArray, PySem.sizeLine_eq]; omega)); k_whole); intro h' F' N'; (try k_sweep)))
local macro_rules | `(tactic| walk_at "call type:range") => `(tactic| (k_here; k_dflt (exfalso; omega)))
open PyProof.Rows in
local macro_rules | `(tactic| walk_at "call builtin:list.extend") => `(tactic| (k_here; (with_reducible show wpAny _ _ (call (Value.builtin _) [Value.ref _, Value.ref _]) _ _ _); k_dflt ((refine' My.ext16 ?k1 ?k2 ?k3 ?k4 ?_ ?z; (case k1 => k_asm); (case k2 => k_asm); (case k3 => k_mem); (case k4 => k_upd); (case z => (simp only [List.size_toArray]; omega)); k_whole)); intro h' F' N'; (try k_sweep)))
set_option maxRecDepth 100000 in
set_option maxHeartbeats 8000000 in
theorem PySem.Challenge.cw_smallrows_s08_marks_holds : PySem.Challenge.rw_smallrows_s08_marks.Holds := by
  k_with "call ref" => k_call_by "mark_group" My.markI (fun (key : Int) (x : List Int) (start : Int) => My.MarkPre key x start)
  k_with "tree" => exact My.mark_end (by assumption) (by simp only [rangeKs_length]; omega)
  k_with "state" => first
    | exact My.marks_start
    | exact My.mark_start
    | exact My.mark_yes (by assumption) (by assumption) (by assumption) (by omega) (by omega)
    | exact My.mark_no (by assumption) (by assumption) (by assumption) (by omega) (by omega)
    | exact My.marks_turn (by assumption) (by assumption) (by assumption) rfl
  k_with "pyIter ref" => (k_of "j" => k_state (fun pre marked bit => 0 ≤ bit ∧ bit ≤ 65536 ∧ My.MarkTold (My.mpF (by assumption)) pre.length marked bit) "marked" "bit")
  k_with "pyIter ref" => (k_of "g" => k_state (fun pre answer => answer.length = 16 * pre.length + 1 ∧ My.ToldG (My.argF hc0) pre.length answer) "answer")
  w_on; k_headS
  case hw => exact ⟨[.int 0, .int 0, .list []], by decide +kernel, by decide +kernel⟩
  w_strict (
    k_goS0
    rename PySem.Challenge.rw_smallrows_s08_marks.pre _ = true => hc0
    cases My.cases hc0 with
    | low h => ((all_goals try k_fold); k_steps; (all_goals (try (w_end; sp_is; wrow_close))); all_goals (sp_left; exact My.shut (a := [-1]) hpre (My.marks_no (by omega)).symm))
    | high h => ((all_goals try k_fold); k_steps; (all_goals (try (w_end; sp_is; wrow_close))); all_goals (sp_left; exact My.shut (a := [-1]) hpre (My.marks_no (by omega)).symm))
    | ok h0 h1 h2 h3 hx hs => ((all_goals try k_fold); k_steps; (all_goals (try (w_end; sp_is; wrow_close))); all_goals (sp_left; refine My.shut hpre (My.marks_end (My.opened hpre) h0 h1 ?_ (by assumption)); simp only [rangeKs_length]; omega)))
#print axioms PySem.Challenge.cw_smallrows_s08_marks_holds
