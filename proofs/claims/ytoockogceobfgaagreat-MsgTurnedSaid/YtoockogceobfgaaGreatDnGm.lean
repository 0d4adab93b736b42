/- msg: the document's changes. -/
import Derived.Test.YtoockogceobfgaaGreatMgQm
import Derived.Test.YtoockogceobfgaaGreatEnxm
import Derived.Laws.StructEq
namespace Go.Proofs.YtoockogceobfgaaGreat
open Go.RowKit
set_option maxRecDepth 100000

set_option maxHeartbeats 16000000 in
theorem rmods25_any {w : World} {v : Value} {L : List Md} (h : Mds w v L) (hkd : ∀ m ∈ L, -9223372036854775808 ≤ m.kind ∧ m.kind ≤ 9223372036854775807) (hl : (L.flatMap mdB).length ≤ 65536) :
    Calls Tryz.prog 101 #[v] w fun e w' => ∃ v', e = .returned v' ∧ Own w' 5 v' ((tlv 48 (L.flatMap mdB)).map bv) ∧ Fresh w.heap.size v' ∧ Ext w w' := by
  obtain ⟨A, c, rfl, hat⟩ := h.open_
  have hsn := fun k h => @fmB_snoc Md UInt8 mdB L k h
  have htk := fun k => @fmB_take Md UInt8 mdB L k
  have hLl := fm_ge mdB mdB_pos L
  have hLl : L.length * 2 ≤ 65536 := by omega
  obtain ⟨Z, hZ⟩ : ∃ Z, Z = tlv 48 (L.flatMap mdB) := ⟨_, rfl⟩
  rw [← hZ]
  replace hZ := Lib.hid hZ
  obtain ⟨n, hn⟩ : ∃ n, n = L.length := ⟨_, rfl⟩
  rw [← hn] at hLl ⊢
  replace hn := Lib.hid hn
  clear h
  go_enter Tryz.func101, Tryz.ntmps101
  go_wp2_with fail
  go_loopw [3, 4] (fun v i wr => ∃ k : Nat, i = .int .i64 k ∧ k ≤ n ∧ Own wr 5 v (((L.take k).flatMap mdB).map bv) ∧ Fresh w.heap.size v ∧ Ext w wr) (fun _ i _ => n - (intOf i).toNat)
  case atStart => exact ⟨0, rfl, Nat.zero_le _, by simpa using Own.nil w 5, fresh_nil _ _ _, Mod.refl _ _⟩
  case round =>
    obtain ⟨k, rfl, hk, ho, hf, hx⟩ := hrel
    have hnn := hn.out
    by_cases hlt : k < n
    · have hb : decide ((k : Int) < (n : Int)) = true := dtrue (by omega)
      obtain ⟨ad, y, hA, c0, c1, c2, hy⟩ := hat k (by omega)
      subst hA
      have h1 := hsn k (by omega)
      have h2 := htk (k + 1)
      have hkk := hkd _ (List.getElem_mem (show k < L.length by omega))
      rw [h1] at h2
      generalize L[k]'(by omega) = a at *
      have hal : (mdB a).length ≤ 65536 := by
        rw [List.length_append] at h2
        omega
      have hal2 := tlv_le (t := 48) hal
      have hal3 : (atB a.typ a.vals).length ≤ 65536 := by rw [List.length_append] at hal2; omega
      have hk0 : (0 : Int) ≤ (k : Int) := by omega
      have hk1 : (k : Int) < (n : Int) := by omega
      obtain ⟨M, hM⟩ : ∃ M, M = (L.take k).flatMap mdB := ⟨_, rfl⟩
      rw [← hM] at ho h1 h2
      have hmd : mdB a = tlv 48 (nuB 10 a.kind ++ atB a.typ a.vals) := rfl
      have hln := Lib.hid (show ((M.map bv).length + ((mdB a).map bv).length) * 1 ≤ 140737488355328 by rw [List.length_append] at h2; rw [List.length_map, List.length_map]; omega)
      rw [hmd] at h1 hln
      have hst := Lib.hid h1
      obtain ⟨Ay, cy, rfl, -, -, -, -⟩ := hy.open_
      have d0 := ext_cell hx c0
      have d1 := ext_cell hx c1
      have d2 := ext_cell hx c2
      have b0 := lt_of_cell c0
      have b1 := lt_of_cell c1
      have b2 := lt_of_cell c2
      have hnum : ∀ wx, Calls Tryz.prog 73 #[.int .u8 10, .int .i64 a.kind] wx fun e w' => ∃ v', e = .returned v' ∧ Own w' 5 v' ((nuB 10 a.kind).map bv) ∧ Fresh wx.heap.size v' ∧ Ext wx w' := fun wx => rnum25_any (w := wx) 10 a.kind hkk.1 hkk.2
      have hattr : ∀ wx, Ext wr wx → Calls Tryz.prog 130 #[sv a.typ, .slice Ay a.vals.length cy] wx fun e w' => ∃ v', e = .returned v' ∧ Own w' 5 v' ((atB a.typ a.vals).map bv) ∧ Fresh wx.heap.size v' ∧ Ext wx w' := fun wx x => rattr25_any (Sl.mod hy (ext_trans hx x) (fun _ _ _ h => h)) hal3
      have hS : ∀ wx, Ext wr wx → wx.cell? (ad.add (k * 3)) = some (.int .i64 a.kind) ∧ wx.cell? ⟨(ad.add (k * 3)).block, (ad.add (k * 3)).off + 1, none⟩ = some (sv a.typ) ∧ wx.cell? ⟨(ad.add (k * 3)).block, (ad.add (k * 3)).off + 2, none⟩ = some (.slice Ay a.vals.length cy) := fun wx x => ⟨ext_cell x d0, ext_cell x d1, ext_cell x d2⟩
      have hSU : ∀ wx, Mod (own u3) wr wx → wx.cell? (ad.add (k * 3)) = some (.int .i64 a.kind) ∧ wx.cell? ⟨(ad.add (k * 3)).block, (ad.add (k * 3)).off + 1, none⟩ = some (sv a.typ) ∧ wx.cell? ⟨(ad.add (k * 3)).block, (ad.add (k * 3)).off + 2, none⟩ = some (.slice Ay a.vals.length cy) := fun wx x => ⟨mod_cell x d0 (fun h => by have := hf _ h; omega), mod_cell x d1 (fun h => by have := hf _ h; omega), mod_cell x d2 (fun h => by have := hf _ h; omega)⟩
      clear h1 h2 hM hnn hsn htk hal hal3 hat c0 c1 c2 hy b0 b1 b2 hmd hkk hkd
      generalize nuB 10 a.kind = P at *
      generalize atB a.typ a.vals = Q at *
      rw [List.length_append] at hal2
      have hfl : [P, Q].flatten = P ++ Q := by simp
      obtain ⟨R, hR⟩ : ∃ R, R = tlv 48 (P ++ Q) := ⟨_, rfl⟩
      rw [← hR] at hst hln
      have htag : ∀ (wx : World) (S : Nat → Prop) (y : Value), Rw wx S y [P, Q] → Calls Tryz.prog 72 #[.int .u8 48, y] wx fun e w' => ∃ v', e = .returned v' ∧ Own w' 5 v' (R.map bv) ∧ Fresh wx.heap.size v' ∧ Ext wx w' := fun wx S y hr => by
        have h := rtag25_any 48 hr (by rw [hfl, List.length_append]; exact hal2)
        rw [hfl] at h
        rw [hR]
        exact h
      clear hR hfl
      have q0 : Ext wr wr.drew := (Mod.refl _ wr).drew
      go_wp2_with fail
      go_region_held3 (fun wx => wx.cell? (ad.add (k * 3)) = some (.int .i64 a.kind) ∧ wx.cell? ⟨(ad.add (k * 3)).block, (ad.add (k * 3)).off + 1, none⟩ = some (sv a.typ) ∧ wx.cell? ⟨(ad.add (k * 3)).block, (ad.add (k * 3)).off + 2, none⟩ = some (.slice Ay a.vals.length cy)) (first | exact qe | exact hS _ qd | exact hS _ qc | exact hS _ qb | exact hS _ qa | exact hS _ q0 | go_keep) (first
        | (go_at_call 73; (with_reducible refine (hnum _).mono ?_); rintro e wa ⟨va, rfl, a1, a2, a3⟩; have qa := ext_trans q0 a3)
        | (go_at_call 130; (with_reducible refine (hattr _ qa).mono ?_); rintro e wb ⟨vb, rfl, b1, b2, b3⟩; have qb := ext_trans qa b3; obtain ⟨Aa, ca, ea⟩ := a1.shape; obtain ⟨Ab, cb, eb⟩ := b1.shape; rw [List.length_map] at ea eb; subst ea eb; have hr := Rw.two 22 (a1.mod b3 (fun _ _ h => h)).sl b1.sl; have qc := ext_trans qb ((Mod.refl (fun _ => False) wb).alloc (.cells #[.slice Aa P.length ca, .slice Ab Q.length cb] 22)))
        | (go_at_call 72; (with_reducible refine (htag _ _ _ hr).mono ?_); rintro e wc ⟨vc, rfl, t1, t2, t3⟩; have qd := ext_trans qc t3; obtain ⟨Ac, cc, ec⟩ := t1.shape; rw [List.length_map] at ec; subst ec; have ho1 := ho.mod qd (fun _ _ h => h))
        | (refine step_app 31 tyB ho1 t1.sl (bv_one _) hln.out rfl rfl (.tmp 11) (.tmp 30) rfl rfl rfl ?_; intro v4 w4 q1 q2 q3; have qe := hSU w4 (Mod.trans (H := own u3) qd q2 (fun _ _ h => h.elim) (fun _ _ h => h))))
      have hx1 := ext_trans hx qd
      clear hS hSU qe hattr hnum htag
      go_wp2_with fail
      exact ⟨⟨k + 1, by go_num, by omega, by rw [hst.out, List.map_append]; exact q1, q3.fresh hf hx1.size, ext_app0 hx1 hf q2⟩, by simp [intOf] <;> omega⟩
    · have hb : decide ((k : Int) < (n : Int)) = false := dfalse (by omega)
      have hkn : k = n := by omega
      subst hkn
      rw [hnn, List.take_length] at ho
      generalize L.flatMap mdB = F at *
      clear hsn htk hat hnn
      obtain ⟨A2, c2, e2⟩ := ho.shape
      rw [List.length_map] at e2
      subst e2
      have hr := Rw.one 22 ho.sl
      have hx2 := fun cs => ext_trans hx ((Mod.refl (fun _ => False) wr).alloc (.cells cs 22))
      go_wp2_with fail
      refine (rtag25_any 48 hr (by rw [one_flat]; exact hl)).mono ?_
      rintro e w2 ⟨v2, rfl, m1, m2, m3⟩
      rw [one_flat] at m1
      go_wp2_with fail
      go_ret
      exact ⟨_, rfl, by rw [hZ.out]; exact m1, fresh_le m2 (hx2 _).size, ext_trans (hx2 _) m3⟩
end Go.Proofs.YtoockogceobfgaaGreat
namespace Go.Proofs.YtoockogceobfgaaGreat
open Go.RowKit
set_option maxRecDepth 100000

end Go.Proofs.YtoockogceobfgaaGreat
namespace Go.Proofs.YtoockogceobfgaaGreat
open Go.RowKit
set_option maxRecDepth 100000

theorem isTyp_tail {s : List UInt8} (h1 : ¬ s.length < 1) (h2 : ¬ 32 < s.length) (h3 : letN (s.getD 0 0).toNat) (h : ∀ (j : Nat) (hj : j < s.length), 1 ≤ j → typN s[j].toNat) : isTyp s := by
  refine ⟨by omega, by omega, h3, fun x hx => ?_⟩
  obtain ⟨j, hj, rfl⟩ := List.mem_iff_getElem.1 hx
  by_cases h0 : j = 0
  · subst h0
    rw [getD_at s hj] at h3
    exact .inl h3
  · exact h j hj (by omega)

set_option maxHeartbeats 2000000 in
theorem rtype_any {w : World} (s : List UInt8) (hl : s.length ≤ 9223372036854775807) :
    Calls Tryz.prog 93 #[sv s] w fun e w' => e = .returned (.bool (decide (isTyp s))) ∧ w' = w := by
  have hsz := sv_size s
  by_cases h1 : s.length < 1
  · have hb : decide ((s.length : Int) < 1) = true := dtrue (by omega)
    go_enter Tryz.func93, Tryz.ntmps93
    go_wp2_with fail
    go_ret
    exact ret_no (fun h => by have := h.1; omega) rfl
  have hb1 : decide ((s.length : Int) < 1) = false := dfalse (by omega)
  by_cases h2 : 32 < s.length
  · have hb : decide ((32 : Int) < (s.length : Int)) = true := dtrue (by omega)
    go_enter Tryz.func93, Tryz.ntmps93
    go_wp2_with fail
    go_ret
    exact ret_no (fun h => by have := h.2.1; omega) rfl
  have hb2 : decide ((32 : Int) < (s.length : Int)) = false := dfalse (by omega)
  have h0 : 0 < s.length := by omega
  obtain ⟨b, hbk⟩ : ∃ b, b = s[0] := ⟨_, rfl⟩
  have hg : ∀ h', (⟨s.toArray⟩ : ByteArray)[0]'h' = b := fun h' => (sv_get s 0 h0 h').trans hbk.symm
  have hgd : s.getD 0 0 = b := by rw [getD_at s h0, hbk]
  replace hbk := Lib.hid hbk
  by_cases h3 : letN b.toNat
  · go_enter Tryz.func93, Tryz.ntmps93
    go_wp2_with fail
    refine (rletter_any b.toNat).mono ?_
    rintro e w1 ⟨rfl, rfl⟩
    rw [decide_eq_true h3]
    go_wp2_with fail
    go_loop [3] (fun i => ∃ k : Nat, 1 ≤ k ∧ k ≤ s.length ∧ i = .int .i64 k ∧ ∀ (j : Nat) (hj : j < s.length), 1 ≤ j → j < k → typN s[j].toNat) (fun i => s.length - (intOf i).toNat)
    case atStart => exact ⟨1, by omega, by omega, rfl, fun j _ _ h => by omega⟩
    case round =>
      obtain ⟨k, hk1, hk, rfl, hall⟩ := hrel
      replace hall := Lib.hid hall
      by_cases hlt : k < s.length
      · have hbl : decide ((k : Int) < (s.length : Int)) = true := dtrue (by omega)
        obtain ⟨c, hck⟩ : ∃ c, c = s[k] := ⟨_, rfl⟩
        have hg : ∀ h', (⟨s.toArray⟩ : ByteArray)[k]'h' = c := fun h' => (sv_get s k hlt h').trans hck.symm
        replace hck := Lib.hid hck
        have hc8 := c.toNat_lt
        go_wp2_with fail
        refine (rletter_any c.toNat).mono ?_
        rintro e w1 ⟨rfl, rfl⟩
        have next : typN c.toNat → ∀ (j : Nat) (hj : j < s.length), 1 ≤ j → j < k + 1 → typN s[j].toNat := fun h4 j hj hj1 hjk => by
          by_cases hj2 : j < k
          · exact hall.out j hj hj1 hj2
          · obtain rfl : j = k := by omega
            rw [← hck.out]; exact h4
        have nope : ¬ typN c.toNat → ¬ isTyp s := fun h4 h => h4 (by rw [hck.out]; exact h.2.2.2 _ (List.getElem_mem _))
        by_cases h5 : letN c.toNat
        · rw [decide_eq_true h5]
          go_wp2_with fail
          exact ⟨⟨k + 1, by omega, by omega, by go_num, next (.inl h5)⟩, by simp [intOf] <;> omega⟩
        rw [decide_eq_false h5]
        by_cases h6 : c.toNat = 45
        · have hb : ((c.toNat : Int) != 45) = false := by rw [h6]; rfl
          have h7 : typN c.toNat := .inr (.inr h6)
          clear h5 h6
          go_wp2_with fail
          exact ⟨⟨k + 1, by omega, by omega, by go_num, next h7⟩, by simp [intOf] <;> omega⟩
        have hb : ((c.toNat : Int) != 45) = true := by rw [bne_iff_ne]; omega
        by_cases h7 : c.toNat < 48
        · have hb7 : decide ((c.toNat : Int) < 48) = true := dtrue (by omega)
          go_wp2_with fail
          go_ret
          exact ret_no (nope (fun h => h.elim h5 (fun h => by omega))) rfl
        have hb7 : decide ((c.toNat : Int) < 48) = false := dfalse (by omega)
        by_cases h8 : 57 < c.toNat
        · have hb8 : decide ((57 : Int) < (c.toNat : Int)) = true := dtrue (by omega)
          go_wp2_with fail
          go_ret
          exact ret_no (nope (fun h => h.elim h5 (fun h => by omega))) rfl
        · have hb8 : decide ((57 : Int) < (c.toNat : Int)) = false := dfalse (by omega)
          go_wp2_with fail
          exact ⟨⟨k + 1, by omega, by omega, by go_num, next (.inr (.inl (by omega)))⟩, by simp [intOf] <;> omega⟩
      · have hbl : decide ((k : Int) < (s.length : Int)) = false := dfalse (by omega)
        go_wp2_with fail
        go_ret
        exact ret_yes (isTyp_tail h1 h2 (by rw [hgd]; exact h3) (fun j hj hj1 => hall.out j hj hj1 (by omega))) rfl
  · go_enter Tryz.func93, Tryz.ntmps93
    go_wp2_with fail
    refine (rletter_any b.toNat).mono ?_
    rintro e w1 ⟨rfl, rfl⟩
    rw [decide_eq_false h3]
    go_wp2_with fail
    go_ret
    exact ret_no (fun h => h3 (by rw [← hgd]; exact h.2.2.1)) rfl

/-- May a part be? -/
def okA (a : Av) : Prop := isTyp a.1 ∧ 1 ≤ a.2.length ∧ a.2.length ≤ 64
instance (a : Av) : Decidable (okA a) := inferInstanceAs (Decidable (_ ∧ _))
/-- May a name be? -/
def isName (L : List Av) : Prop := L.length ≤ 12 ∧ ∀ a ∈ L, okA a
instance (L : List Av) : Decidable (isName L) := inferInstanceAs (Decidable (_ ∧ _))

end Go.Proofs.YtoockogceobfgaaGreat
namespace Go.Proofs.YtoockogceobfgaaGreat
open Go.RowKit
set_option maxRecDepth 100000

def sameN (L M : List Av) : Prop := norm L = norm M
instance (L M : List Av) : Decidable (sameN L M) := inferInstanceAs (Decidable (_ = _))
def underN (L M : List Av) : Prop := M.length ≤ L.length ∧ sameN (L.drop (L.length - M.length)) M
instance (L M : List Av) : Decidable (underN L M) := inferInstanceAs (Decidable (_ ∧ _))

end Go.Proofs.YtoockogceobfgaaGreat
