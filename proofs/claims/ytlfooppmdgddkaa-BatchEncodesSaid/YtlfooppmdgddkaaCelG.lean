/- block: Decode. -/
import Derived.Test.YtlfooppmdgddkaaCelF
namespace Go.Proofs.Ytlfooppmdgddkaa
open Go.RowKit
set_option maxRecDepth 100000

def decF : Nat → List UInt8 → List UInt8 → List Ce → Option (List Ce)
  | 0, _, _, _ => none
  | f + 1, ahead, l, acc => if l = [] then some acc else match takeC ahead (some l) with
    | (c, some l') => if isC c then decF f c.key l' (acc ++ [c]) else none
    | (_, none) => none
def outD (b : List UInt8) : Option (List Ce) → List Ce × Nat
  | none => ([], 3)
  | some L => if riseN L = 0 ∧ encB L = b then (L, 0) else ([], 3)
/-- Bytes as cells, or the error. -/
def decB (b : List UInt8) : List Ce × Nat := outD b (decF (b.length + 1) [] b [])

theorem takeN_lt {l t : List UInt8} {n : Nat} (h : takeN (some l) = (n, some t)) : t.length < l.length := by
  unfold takeN takeNum at h
  dsimp only at h
  cases hx : numF 9 0 0 l with
  | none => rw [hx] at h; cases h
  | some p =>
    obtain ⟨m, t'⟩ := p
    rw [hx] at h
    cases h
    exact (numF_lt 9 0 0 l t n hx).1
theorem takeN_no : takeN none = (0, none) := rfl
theorem takeC_lt {a l l' : List UInt8} {c : Ce} (h : takeC a (some l) = (c, some l')) : l'.length < l.length := by
  have key : ∀ s : Option (List UInt8), (takeN (some l)).2 = s → (∃ l1, s = some l1 ∧ l1.length < l.length) ∨ s = none := by
    intro s hs
    cases s with
    | none => exact .inr rfl
    | some l1 => exact .inl ⟨l1, rfl, takeN_lt (n := (takeN (some l)).1) (by rw [← hs])⟩
  unfold takeC at h
  have k1 := key _ rfl
  generalize (takeN (some l)).2 = s1 at *
  have e1 := (takeB_len s1).1
  have e2 := takeN_len (takeB s1).2
  have e3 := takeN_len (takeN (takeB s1).2).2
  have e4 := (takeB_len (takeN (takeN (takeB s1).2).2).2).1
  rcases k1 with ⟨l1, rfl, hl⟩ | rfl
  · have e0 : ((some l1).getD []).length = l1.length := rfl
    split at h
    · cases h
    · split at h
      · injection h with _ h
        rw [h] at e3
        have : ((some l').getD []).length = l'.length := rfl
        omega
      · split at h
        · cases h
        · injection h with _ h
          rw [h] at e4
          have : ((some l').getD []).length = l'.length := rfl
          omega
  · exfalso
    rw [takeB_none] at h
    simp only [takeN_no, takeB_none] at h
    split at h
    · cases h
    · split at h
      · cases h
      · split at h
        · cases h
        · cases h
theorem wC_le {L : List Ce} (h : ∀ c ∈ L, isC c) : wC L ≤ 20481 * L.length := by
  induction L with
  | nil => simp [wC]
  | cons a L ih =>
    have := ih (fun c hc => h c (List.mem_cons_of_mem _ hc))
    have ha := h a (List.mem_cons_self ..)
    have := ha.2.1
    have := ha.2.2.1
    rw [wC_cons, List.length_cons]; omega

def rlen (w : World) (b : Nat) : Nat := match w.cell? ⟨b, 0, none⟩ with
  | some (.slice _ n _) => n
  | _ => 0
theorem Rd.rlen {w : World} {b : Nat} {S : Nat → Prop} {v : Value} {st : Option (List UInt8)} (h : Rd w b S v st) : rlen w b = (st.getD []).length := by
  obtain ⟨A, c, hv, _⟩ := h.row.open_
  unfold Proofs.Ytlfooppmdgddkaa.rlen
  rw [h.blk.c1.1, hv]

set_option maxHeartbeats 16000000 in
theorem decode_any {w : World} {T : Nat → Prop} {y : Value} {bs : List UInt8} (hy : Bs w T y bs) (hlen : bs.length ≤ 40000) :
    Calls Try.prog 30 #[y] w fun e w' => ∃ v', e = .returned (.tuple #[v', .int .i64 (decB bs).2]) ∧ OwnC w' v' (decB bs).1 ∧ Fresh w.heap.size v' ∧ Ext w w' := by
  obtain ⟨V, hV⟩ : ∃ V, V = decF (bs.length + 1) [] bs [] := ⟨_, rfl⟩
  obtain ⟨R, hR⟩ : ∃ R, R = decB bs := ⟨_, rfl⟩
  rw [← hR]
  have hRV : R = outD bs V := by rw [hR, hV]; rfl
  clear hR
  replace hRV := Lib.hid hRV
  replace hV := Lib.hid hV
  go_enter Try.func30, Try.ntmps30
  go_wp2_with fail
  refine (newreader_any hy (by omega)).mono ?_
  rintro e w1 ⟨b, vr, rfl, r1, hb1, hb2, x1⟩
  go_wp2_with fail
  go_loopw [5, 6] (fun v t wr => ∃ (l ahead : List UInt8) (acc : List Ce) (f : Nat) (vr : Value), t = sv ahead ∧ ahead.length ≤ 4096 ∧ acc.length + l.length ≤ bs.length ∧ Rd wr b (fun k => k = w.heap.size) vr (some l) ∧ Hid (l.length < f ∧ decF f ahead l acc = V ∧ ∀ c ∈ acc, isC c) ∧ OwnC wr v acc ∧ Fresh (b + 1) v ∧ b < wr.heap.size ∧ Ext w wr) (fun _ _ wr => rlen wr b)
  case atStart => exact ⟨bs, [], [], bs.length + 1, vr, rfl, by simp, by simp, r1, Lib.hid ⟨by omega, hV.out.symm, fun c hc => by cases hc⟩, OwnR.nil _ _ _ _, fresh_nil _ _ _, hb2, x1⟩
  case round =>
    clear r1 x1 hb2 hV
    obtain ⟨l, ahead, acc, f, vr2, rfl, hah, hal, r2, hf, p2, q2, hbw, x2⟩ := hrel
    have hat := r2.rlen
    obtain ⟨f, rfl⟩ : ∃ f', f = f' + 1 := ⟨f - 1, by have := hf.out.1; omega⟩
    have hsl : ((some l).getD []).length = l.length := rfl
    replace hsl := Lib.hid hsl
    by_cases hl0 : l = []
    case neg =>
      have hlp : 0 < l.length := List.length_pos_iff.2 hl0
      have hb0 : decide (0 < l.length) = true := dtrue hlp
      have hstep := hf.out.2.1
      rw [decF, if_neg hl0] at hstep
      have hok := hf.out.2.2
      have hfl := hf.out.1
      clear hf hl0
      go_wp2_with fail
      refine (left_any r2).mono ?_
      rintro e w3 ⟨rfl, hw3⟩
      rw [hw3, hsl.out]
      clear hw3 w3
      go_wp2_with fail
      refine (take_any r2 (fun k hk => by omega) (by rw [hsl.out]; omega) (by omega)).mono ?_
      rintro e w3 ⟨v3, rfl, r3, m3⟩
      have p3 := p2.mod m3 (fun k hk h => by have := q2 k hk; omega)
      have x3 : Ext w w3 := x2.trans m3 (fun _ _ h => h) (fun k hk h => by omega)
      have hb3 : b < w3.heap.size := r3.blk.lt
      clear r2 p2 m3 x2 hbw
      have hlt := fun c l' => takeC_lt (a := ahead) (l := l) (c := c) (l' := l')
      obtain ⟨c, s, hcs⟩ : ∃ c s, takeC ahead (some l) = (c, s) := ⟨_, _, rfl⟩
      rw [hcs] at hstep r3 hlt ⊢
      dsimp only at r3 hstep
      clear hcs
      have A4 : Ext w3 (w3.alloc (.cells (car c) 23)) := (Mod.refl _ w3).alloc _
      have G4 : Blk (w3.alloc (.cells (car c) 23)) w3.heap.size 23 (car c) := Blk.new w3 _ _
      have r4 := r3.mod A4 (fun h => h) (fun _ _ _ h => h)
      have p4 := p3.ext A4
      have x4 := ext_trans x3 A4
      have hg4 : b < w3.heap.size := hb3
      obtain ⟨w4, hw4⟩ : ∃ w4, w4 = w3.alloc (.cells (car c) 23) := ⟨_, rfl⟩
      rw [← hw4] at G4 r4 p4 x4
      have hg3 : w3.heap.size < w4.heap.size := Blk.lt G4
      have hgo1 : ¬ own u5 w3.heap.size := fun hh => absurd (p3.lt hh) (Nat.lt_irrefl _)
      clear A4 r3 p3 x3 hb3
      replace hw4 := Lib.hid hw4
      dsimp only
      go_upto_region 6 with fail
      rw [← hw4.out]
      have hgo0 : Hid (¬ own u5 w3.heap.size) := Lib.hid hgo1
      clear hgo1
      generalize w3.heap.size = g at *
      have d0 : _ = some _ := Blk.cell G4 0
      have d1 : _ = some _ := Blk.cell G4 1
      have d2 : _ = some _ := Blk.cell G4 2
      have d3 : _ = some _ := Blk.cell G4 3
      cases s with
      | none =>
        have hV0 : Hid (V = none) := Lib.hid hstep.symm
        have hR0 : Hid (R = ([], 3)) := Lib.hid (by rw [hRV.out, hV0.out]; rfl)
        clear hstep hlt
        go_wp2_with fail
        refine (good_any r4).mono ?_
        rintro e w5 ⟨rfl, hw5⟩
        rw [hw5]
        clear hw5 w5
        dsimp only [Option.isSome]
        go_wp2_with fail
        go_ret2
        exact ⟨_, by rw [hR0.out]; rfl, by rw [hR0.out]; exact OwnR.nil _ _ _ _, fresh_nil _ _ _, x4⟩
      | some l' =>
        have hll := Lib.hid (hlt c l' rfl)
        dsimp only at hstep
        clear hlt
        replace hok := Lib.hid hok
        go_wp2_with fail
        refine (good_any r4).mono ?_
        rintro e w5 ⟨rfl, hw5⟩
        rw [hw5]
        clear hw5 w5
        dsimp only [Option.isSome]
        by_cases hc : isC c
        case neg =>
          rw [if_neg hc] at hstep
          have hR0 : Hid (R = ([], 3)) := Lib.hid (by rw [hRV.out, ← hstep]; rfl)
          clear hstep
          go_wp2_with fail
          refine (is_any c).mono ?_
          rintro e w5 ⟨rfl, x5⟩
          rw [dfalse hc]
          go_wp2_with fail
          go_ret2
          exact ⟨_, by rw [hR0.out]; rfl, by rw [hR0.out]; exact OwnR.nil _ _ _ _, fresh_nil _ _ _, ext_trans x4 x5⟩
        rw [if_pos hc] at hstep
        replace hstep := Lib.hid hstep
        have hkl : c.key.length ≤ 4096 := hc.2.1
        go_wp2_with fail
        refine (is_any c).mono ?_
        rintro e w5 ⟨rfl, x5⟩
        rw [dtrue hc]
        have hok2 : Hid (∀ x ∈ acc ++ [c], isC x) := Lib.hid (fun x hx => by
          rcases List.mem_append.1 hx with hx | hx
          · exact hok.out x hx
          · rw [List.mem_singleton.1 hx]; exact hc)
        have r5 := r4.mod x5 (fun h => h) (fun _ _ _ h => h)
        have p5 := p4.ext x5
        have G5 := G4.mod x5 (fun h => h)
        have x5' := ext_trans x4 x5
        have hz5 := x5.size
        clear r4 p4 G4 x4 x5 d0 d1 d2 d3 hok hc
        have d0 : _ = some _ := Blk.cell G5 0
        have d1 : _ = some _ := Blk.cell G5 1
        have d2 : _ = some _ := Blk.cell G5 2
        have d3 : _ = some _ := Blk.cell G5 3
        have hn1 := Lib.hid (show (acc.length + 1) * 48 ≤ 140737488355328 by omega)
        have hz5' := Lib.hid hz5
        clear hz5
        have hgo := hgo0.out
        clear hgo0
        obtain ⟨A, cc, rfl⟩ := p5.shape
        go_wp2_with ((with_reducible show wpList _ _ _ (⟨some 29, _, _, _, _, _⟩ :: _) _ _); refine wp_appR tyC cel_len p5 rfl (cel_ok c) hn1.out rfl (.tmp 26) (.tmp 28) rfl rfl rfl ?_; intro v6 w6 k1 k2 k3; have G6 := G5.mod k2 (fun h => hgo h); have e0 : w6.cell? ⟨g, 0, none⟩ = some (sv c.key) := Blk.cell G6 0)
        have q6 : Fresh (b + 1) v6 := k3.fresh q2 (by have := x5'.size; have := hz5'.out; omega)
        have hnb : ∀ k, k ≤ b → ¬ own (.slice A acc.length cc) k := fun k hk hh => by have := q2 k hh; omega
        have r6 := r5.mod k2 (hnb b (Nat.le_refl _)) (fun k _ hk => hnb k (by omega))
        have x6 : Ext w w6 := x5'.trans k2 (fun _ _ h => h) (fun k hk hh => hnb k (by omega) hh)
        have hb6 : b < w6.heap.size := r6.blk.lt
        refine ⟨⟨l', c.key, acc ++ [c], f, v3, rfl, hkl, by have := hll.out; rw [List.length_append, List.length_singleton]; omega, r6, Lib.hid ⟨by have := hll.out; omega, hstep.out, hok2.out⟩, k1, q6, hb6, x6⟩, ?_⟩
        rw [r6.rlen, hat]
        exact hll.out
    subst hl0
    have hb0 : decide (0 < ([] : List UInt8).length) = false := dfalse (by simp)
    have hV0 : V = some acc := by
      rw [← hf.out.2.1, decF, if_pos rfl]
    have hok := hf.out.2.2
    have hwc : wC acc ≤ 1000000000 := by
      have := wC_le hok
      simp only [List.length_nil] at hal
      omega
    have hR0 := hRV.out
    rw [hV0] at hR0
    replace hR0 := Lib.hid (show R = if riseN acc = 0 ∧ encB acc = bs then (acc, 0) else ([], 3) from hR0)
    clear hRV hV0 hf hok hat
    go_wp2_with fail
    refine (left_any r2).mono ?_
    rintro e w3 ⟨rfl, hw3⟩
    rw [hw3, hsl.out]
    clear hw3 w3
    go_wp2_with fail
    refine (encode_any p2.rc hwc).mono ?_
    rintro e w3 ⟨v3, rfl, o3, f3, x3⟩
    have p3 := p2.ext x3
    have r3 := r2.mod x3 (fun h => h) (fun _ _ _ h => h)
    replace x3 := ext_trans x2 x3
    have hy3 := hy.ext x3
    clear p2 r2 x2
    have hen : encR acc = if riseN acc = 0 then encB acc else [] := rfl
    obtain ⟨n, hn⟩ : ∃ n, n = riseN acc := ⟨_, rfl⟩
    rw [hen, ← hn] at o3
    rw [← hn] at hR0 ⊢
    clear hen
    replace hn := Lib.hid hn
    by_cases h0 : n = 0
    case neg =>
      have hb1 : ((n : Int) != 0) = true := by rw [bne_iff_ne]; omega
      have hR1 := Lib.hid (hR0.out.trans (if_neg (fun h => h0 h.1)))
      clear h0
      go_wp2_with fail
      refine (good_any r3).mono ?_
      rintro e w4 ⟨rfl, hw4⟩
      rw [hw4]
      clear hw4 w4
      dsimp only [Option.isSome]
      go_wp2_with fail
      go_ret2
      exact ⟨_, by rw [hR1.out]; rfl, by rw [hR1.out]; exact OwnR.nil _ _ _ _, fresh_nil _ _ _, x3⟩
    have hb1 : ((n : Int) != 0) = false := by rw [h0]; rfl
    rw [if_pos h0] at o3
    have heq := equal_any o3.sl hy3
    go_wp2_with fail
    refine (good_any r3).mono ?_
    rintro e w4 ⟨rfl, hw4⟩
    rw [hw4]
    clear hw4 w4
    dsimp only [Option.isSome]
    by_cases hbe : encB acc = bs
    · have hR1 := Lib.hid (hR0.out.trans (if_pos ⟨h0, hbe⟩))
      rw [dtrue hbe] at heq
      clear h0 hbe hR0
      go_wp2_with fail
      refine heq.mono ?_
      rintro e w4 ⟨rfl, hw4⟩
      rw [hw4]
      clear hw4 w4
      go_wp2_with fail
      go_ret2
      exact ⟨_, by rw [hR1.out]; rfl, by rw [hR1.out]; exact p3, q2.mono (by omega), x3⟩
    · have hR1 := Lib.hid (hR0.out.trans (if_neg (fun h => hbe h.2)))
      rw [dfalse hbe] at heq
      clear h0 hbe hR0
      go_wp2_with fail
      refine heq.mono ?_
      rintro e w4 ⟨rfl, hw4⟩
      rw [hw4]
      clear hw4 w4
      go_wp2_with fail
      go_ret2
      exact ⟨_, by rw [hR1.out]; rfl, by rw [hR1.out]; exact OwnR.nil _ _ _ _, fresh_nil _ _ _, x3⟩
end Go.Proofs.Ytlfooppmdgddkaa
