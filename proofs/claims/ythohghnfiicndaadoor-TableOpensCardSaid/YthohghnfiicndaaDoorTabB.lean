/- table: bytes read back; pure. -/
import Derived.Test.YthohghnfiicndaaDoorTabA
import Derived.Test.YthohghnfiicndaaDoorCelV
namespace Go.Proofs.YthohghnfiicndaaDoor
open Go.RowKit
set_option maxRecDepth 100000

/-- A block's end. -/
structure En where
  key : List UInt8
  seq : Int
instance : DecidableEq En := fun a b => decidable_of_iff (a.key = b.key ∧ a.seq = b.seq) ⟨fun ⟨h1, h2⟩ => by cases a; cases b; simp_all, fun h => by rw [h]; exact ⟨rfl, rfl⟩⟩
instance : Inhabited En := ⟨⟨[], 0⟩⟩
abbrev enl (e : En) : List Value := [sv e.key, .int .i64 e.seq]
abbrev ear (e : En) : Array Value := #[sv e.key, .int .i64 e.seq]
theorem enl_len (e : En) : (enl e).length = 2 := rfl
theorem enl_ok (e : En) : ∀ u ∈ enl e, u.oneCell' = true := by
  intro u hu
  simp only [enl, List.mem_cons, List.not_mem_nil, or_false] at hu
  rcases hu with rfl | rfl <;> rfl
def endE (p : List Ce) : En := ⟨(lastC p).key, (lastC p).seq⟩
/-- A block and its end. -/
abbrev Bl := En × List Ce
abbrev bl (p : List Ce) : Bl := (endE p, p)
def enT (st : Option (List UInt8)) : En := ⟨(takeB st).1, ((takeN (takeB st).2).1 : Nat)⟩
def byT (st : Option (List UInt8)) : List UInt8 := (takeB (takeN (takeB st).2).2).1
def nxT (st : Option (List UInt8)) : Option (List UInt8) := (takeB (takeN (takeB st).2).2).2
def hasE (acc : List Bl) (e : En) : Bool := acc.any fun b => decide (b.1 = e)
def runT : Nat → Option (List UInt8) → List Bl → Option (List Bl × Option (List UInt8))
  | 0, st, acc => some (acc, st)
  | _ + 1, none, acc => some (acc, none)
  | m + 1, some l, acc => if hasE acc (enT (some l)) = true ∨ (decB (byT (some l))).2 ≠ 0 then none else runT m (nxT (some l)) (acc ++ [(enT (some l), (decB (byT (some l))).1)])
def restT (x : List Bl × Option (List UInt8)) : Option (List Bl × Nat × List UInt8) := if isWhole (takeB (takeN x.2).2).2 = true then some (x.1, (takeN x.2).1, (takeB (takeN x.2).2).1) else none
def openT (p : List UInt8) : Option (List Bl × Nat × List UInt8) := (runT (takeN (some p)).1 (takeN (some p)).2 []).bind restT
def allT (acc : List Bl) : List Ce := acc.flatMap (·.2)
def outO (b : List UInt8) : Option (List Bl × Nat × List UInt8) → Option (List Ce)
  | none => none
  | some x => if buildN (allT x.1) = 0 ∧ buildB (allT x.1) = b then some (allT x.1) else none
def openL (b : List UInt8) : Option (List Ce) := if (oneR b).2 ≠ 0 then none else outO b (openT (oneR b).1)
def openN (b : List UInt8) : Nat := if (oneR b).2 ≠ 0 then (oneR b).2 else if (openL b).isSome then 0 else 3

theorem runT_zero (st : Option (List UInt8)) (acc : List Bl) : runT 0 st acc = some (acc, st) := rfl
theorem runT_none (m : Nat) (acc : List Bl) : runT m none acc = some (acc, none) := by cases m <;> rfl
theorem runT_bad {m : Nat} {l : List UInt8} {acc : List Bl} (h : hasE acc (enT (some l)) = true ∨ (decB (byT (some l))).2 ≠ 0) : runT (m + 1) (some l) acc = none := by
  show (if _ then none else _) = _
  rw [if_pos h]
theorem runT_step {m : Nat} {l : List UInt8} {acc : List Bl} (h1 : hasE acc (enT (some l)) = false) (h2 : (decB (byT (some l))).2 = 0) :
    runT (m + 1) (some l) acc = runT m (nxT (some l)) (acc ++ [(enT (some l), (decB (byT (some l))).1)]) := by
  show (if _ then none else _) = _
  rw [if_neg (by rw [h1, h2]; simp)]
theorem allT_snoc (acc : List Bl) (b : Bl) : allT (acc ++ [b]) = allT acc ++ b.2 := by
  unfold allT
  rw [List.flatMap_append]; simp
theorem allT_map (ps : List (List Ce)) : allT (ps.map bl) = ps.flatten := by
  unfold allT
  rw [List.flatMap_map]
  induction ps with
  | nil => rfl
  | cons p ps ih => rw [List.flatMap_cons, ih, List.flatten_cons]

theorem seq_clamp {c : Ce} (h : isC c) : ((clamp c.seq : Nat) : Int) = c.seq := by
  have h1 := h.2.2.2.2.1
  have h2 := h.2.2.2.2.2
  unfold clamp; omega
/-- A block, as it is laid. -/
structure OkP (p : List Ce) : Prop where
  rise : riseN p = 0
  full : p ≠ []
  lim : (encB p).length ≤ 4611686018427387904
theorem blk_step {p : List Ce} (h : OkP p) (rest : List UInt8) : enT (some (blkE p ++ rest)) = endE p ∧ byT (some (blkE p ++ rest)) = encB p ∧ nxT (some (blkE p ++ rest)) = some rest := by
  have hc := (riseN_zero h.rise).1 _ (lastC_mem h.full)
  have e : blkE p ++ rest = enc7 (lastC p).key.length ++ (lastC p).key ++ (enc7 (clamp (lastC p).seq) ++ (enc7 (encB p).length ++ encB p ++ rest)) := by
    unfold blkE
    simp only [List.append_assoc]
  have h1 := takeB_enc (lastC p).key (enc7 (clamp (lastC p).seq) ++ (enc7 (encB p).length ++ encB p ++ rest)) (by have := hc.2.1; omega)
  have h2 := takeN_enc (clamp (lastC p).seq) (enc7 (encB p).length ++ encB p ++ rest) (clamp_le _)
  have h3 := takeB_enc (encB p) rest h.lim
  unfold enT byT nxT
  rw [e, h1]
  simp only [h2, h3]
  refine ⟨?_, trivial, trivial⟩
  unfold endE
  rw [seq_clamp hc]
theorem hasE_iff (acc : List Bl) (e : En) : hasE acc e = true ↔ ∃ b ∈ acc, b.1 = e := by
  unfold hasE
  simp
theorem hasE_snoc (acc : List Bl) (b : Bl) (e : En) : hasE (acc ++ [b]) e = (hasE acc e || decide (b.1 = e)) := by
  unfold hasE
  rw [List.any_append]; simp
theorem run_enc (rest : List UInt8) : ∀ (ps : List (List Ce)) (acc : List Bl), (∀ p ∈ ps, OkP p) → (ps.Pairwise fun p q => endE p ≠ endE q) → (∀ p ∈ ps, hasE acc (endE p) = false) →
    runT ps.length (some (ps.flatMap blkE ++ rest)) acc = some (acc ++ ps.map bl, some rest)
  | [], acc, _, _, _ => by simp [runT]
  | p :: ps, acc, h1, h2, h3 => by
    obtain ⟨e1, e2, e3⟩ := blk_step (h1 p List.mem_cons_self) (ps.flatMap blkE ++ rest)
    have hd := decB_enc (h1 p List.mem_cons_self).rise
    have e0 : (p :: ps).flatMap blkE ++ rest = blkE p ++ (ps.flatMap blkE ++ rest) := by rw [List.flatMap_cons, List.append_assoc]
    rw [List.length_cons, e0, runT_step (by rw [e1]; exact h3 p List.mem_cons_self) (by rw [e2, hd]), e1, e2, e3, hd]
    rw [run_enc rest ps (acc ++ [(endE p, p)]) (fun q hq => h1 q (List.mem_cons_of_mem _ hq)) (List.pairwise_cons.1 h2).2 (fun q hq => by
      rw [hasE_snoc, h3 q (List.mem_cons_of_mem _ hq), Bool.false_or]
      exact decide_eq_false ((List.pairwise_cons.1 h2).1 q hq))]
    simp
theorem ends_apart {L : List Ce} (h : riseN L = 0) : (splitB L).Pairwise fun p q => endE p ≠ endE q := by
  have hs : sortedC (splitB L).flatten := by rw [split_flat]; exact sorted_of (riseN_zero h).2
  have h2 := (List.pairwise_flatten.1 hs).2
  refine List.Pairwise.imp_of_mem (fun {p q} hp hq hpq he => ?_) h2
  have := hpq _ (lastC_mem (split_full L p hp)) _ (lastC_mem (split_full L q hq))
  unfold endE at he
  injection he with e1 e2
  rw [lessC_one ⟨e1, e2⟩] at this
  cases this
theorem okP_of {L : List Ce} (h : riseN L = 0) (hw : wC L ≤ 1000000) : ∀ p ∈ splitB L, OkP p := fun p hp => by
  have h1 := split_rise h hp
  have h2 := encB_le (riseN_zero h1).1
  have h3 := wC_part hp
  have h4 := wC_len p
  exact ⟨h1, split_full L p hp, by omega⟩
theorem open_body {L : List Ce} (h : buildN L = 0) (hw : wC L ≤ 1000000) : openT (bodyB L) = some ((splitB L).map bl, L.length, filB L) := by
  obtain ⟨h0, hl, hr⟩ := build_rise h
  have hn := split_len L
  have hf := @filB_len L
  have e : bodyB L = enc7 (splitB L).length ++ ((splitB L).flatMap blkE ++ (enc7 L.length ++ (enc7 (filB L).length ++ filB L))) := by
    unfold bodyB
    simp only [List.append_assoc]
  have h1 := takeN_enc (splitB L).length ((splitB L).flatMap blkE ++ (enc7 L.length ++ (enc7 (filB L).length ++ filB L))) (by omega)
  have h2 := run_enc (enc7 L.length ++ (enc7 (filB L).length ++ filB L)) (splitB L) [] (okP_of hr hw) (ends_apart hr) (fun _ _ => rfl)
  have h3 := takeN_enc L.length (enc7 (filB L).length ++ filB L) (by omega)
  have h4 := takeB_enc (filB L) [] (by omega)
  rw [List.append_nil] at h4
  unfold openT
  rw [e, h1]
  simp only
  rw [h2]
  show restT _ = _
  unfold restT
  simp only [h3, h4]
  simp [isWhole]
theorem open_build {L : List Ce} (h : buildN L = 0) (hw : wC L ≤ 300000) : openL (buildB L) = some L ∧ openN (buildB L) = 0 ∧ buildB L = frec (bodyB L) ∧ (bodyB L).length ≤ 1048576 := by
  obtain ⟨h0, hl, hr⟩ := build_rise h
  have hb := body_len hr (by omega)
  have e : buildB L = frec (bodyB L) := if_pos h
  have h1 : oneR (buildB L) = (bodyB L, 0) := by
    have := dec_frec (bodyB L) [] (by omega)
    rw [List.append_nil] at this
    unfold oneR
    rw [e, this, frec_len]
    simp
  have h2 : openL (buildB L) = some L := by
    unfold openL
    rw [h1]
    simp only [ne_eq, not_true_eq_false, if_false]
    rw [open_body h (by omega)]
    unfold outO
    simp only
    rw [allT_map, split_flat, if_pos ⟨h, rfl⟩]
  refine ⟨h2, ?_, e, by omega⟩
  unfold openN
  rw [h1, h2]
  rfl
theorem open_some {b : List UInt8} {L : List Ce} (h : openL b = some L) : (oneR b).2 = 0 ∧ openN b = 0 ∧ buildN L = 0 ∧ buildB L = b := by
  have h0 := h
  unfold openL at h
  split at h
  · cases h
  · rename_i hn
    have hn : (oneR b).2 = 0 := by omega
    unfold outO at h
    split at h
    · cases h
    · split at h
      · rename_i hc
        injection h with h
        rw [h] at hc
        refine ⟨hn, ?_, hc.1, hc.2⟩
        unfold openN
        rw [h0, hn]
        rfl
      · cases h
theorem open_parts {b : List UInt8} {L : List Ce} (h : openL b = some L) (hw : wC L ≤ 300000) : openT (oneR b).1 = some ((splitB L).map bl, L.length, filB L) := by
  obtain ⟨h1, h2, h3, h4⟩ := open_some h
  obtain ⟨e1, e2, e3, e4⟩ := open_build h3 hw
  have h1 : oneR b = (bodyB L, 0) := by
    have := dec_frec (bodyB L) [] e4
    rw [List.append_nil] at this
    unfold oneR
    rw [← h4, e3, this, frec_len]
    simp
  rw [h1]
  exact open_body h3 (by omega)

/- WEIGHTS -/
theorem enc_weight_at (a : List UInt8) (c : Ce) : c.key.length ≤ comm a c.key + (c.key.drop (comm a c.key)).length ∧ (c.key.drop (comm a c.key)).length + (if c.del then 0 else c.val.length) + 3 ≤ (encC a c).length := by
  have p1 := enc7_pos (comm a c.key)
  have p2 := enc7_pos (c.key.drop (comm a c.key)).length
  have p3 := enc7_pos (clamp c.seq)
  have p4 := enc7_pos 1
  refine ⟨by rw [List.length_drop]; omega, ?_⟩
  unfold encC
  cases c.del
  · simp only [List.length_append, Bool.false_eq_true, if_false]; omega
  · simp only [List.length_append, if_true]; omega
def keyL (L : List Ce) (k : Nat) : Nat := if k % 4 = 0 then 0 else (L.getD (k - 1) default).key.length
theorem enc_weight {L : List Ce} (h : ∀ c ∈ L, isC c) : ∀ k, k ≤ L.length → wC (L.take k) + (4 - k % 4) * keyL L k ≤ 4 * (encTo L k).length
  | 0, _ => by simp [keyL, wC]
  | k + 1, hk => by
    have ih := enc_weight h k (by omega)
    have hk' : k < L.length := by omega
    obtain ⟨e1, e2⟩ := enc_weight_at (aheadC L k) L[k]
    have e3 := (comm_le (aheadC L k) L[k].key).1
    have hv : L[k].val.length ≤ (if L[k].del then 0 else L[k].val.length) := by
      have := (h _ (List.getElem_mem hk')).2.2.2.1
      split
      · rename_i hd; rw [this hd]; exact Nat.le_refl _
      · exact Nat.le_refl _
    have ha : (aheadC L k).length = keyL L k := by
      unfold aheadC keyL
      split <;> rfl
    have hn : keyL L (k + 1) = if (k + 1) % 4 = 0 then 0 else L[k].key.length := by
      unfold keyL
      rw [Nat.add_sub_cancel, getD_c L hk']
    rw [ha] at e3
    rw [wC_snoc L hk', encTo_snoc, List.length_append, getD_c L hk', hn]
    generalize (encC (aheadC L k) L[k]).length = E at *
    generalize comm (aheadC L k) L[k].key = M at *
    generalize (List.drop M L[k].key).length = Dd at *
    generalize (if L[k].del = true then 0 else L[k].val.length) = V at *
    generalize L[k].key.length = K at *
    generalize L[k].val.length = V2 at *
    generalize (encTo L k).length = F at *
    generalize wC (List.take k L) = W at *
    generalize hkl : keyL L k = KL at *
    have h4 : k % 4 = 0 ∨ k % 4 = 1 ∨ k % 4 = 2 ∨ k % 4 = 3 := by omega
    rcases h4 with h4 | h4 | h4 | h4
    · have : KL = 0 := by rw [← hkl]; unfold keyL; rw [if_pos h4]
      rw [h4] at ih
      rw [show (k + 1) % 4 = 1 by omega]
      simp only [Nat.one_ne_zero, if_false]; omega
    · rw [h4] at ih
      rw [show (k + 1) % 4 = 2 by omega]
      simp; omega
    · rw [h4] at ih
      rw [show (k + 1) % 4 = 3 by omega]
      simp; omega
    · rw [h4] at ih
      rw [show (k + 1) % 4 = 0 by omega]
      simp; omega
theorem encB_weight {L : List Ce} (h : ∀ c ∈ L, isC c) : wC L ≤ 4 * (encB L).length := by
  have := enc_weight h L.length (Nat.le_refl _)
  rw [List.take_length] at this
  unfold encB; omega
theorem dec_weight {bs : List UInt8} (h : (decB bs).2 = 0) : wC (decB bs).1 ≤ 4 * bs.length ∧ ∀ c ∈ (decB bs).1, isC c := by
  unfold decB at h ⊢
  unfold outD at h ⊢
  split
  · exact ⟨by simp [wC], fun c hc => by cases hc⟩
  · rename_i L hL
    rw [hL] at h
    simp only at h
    split
    · rename_i hc
      have h1 := (riseN_zero hc.1).1
      have := encB_weight h1
      rw [hc.2] at this
      exact ⟨this, h1⟩
    · rename_i hc
      rw [if_neg hc] at h
      cases h
theorem nx_size (st : Option (List UInt8)) : (byT st).length + szO (nxT st) ≤ szO st := by
  have h1 := takeB_sum st
  have h2 := takeN_len (takeB st).2
  have h3 := takeB_sum (takeN (takeB st).2).2
  unfold byT nxT
  unfold szO at *
  omega
end Go.Proofs.YthohghnfiicndaaDoor
