/- Merged: P12, P13, P14, P15, P16, P17. -/
import Derived.Test.YtekoaheiapddiaaGreatM08
import Derived.Test.YtekoaheiapddiaaGreatM07
section
namespace Go.Proofs.YtekoaheiapddiaaGreat.Dz
open Go.RowKit
section
variable {p : Pd} {b B : Nat} {v : Value} {W : World}
theorem torn_max (t:Int) (n:Nat) : max (min t (n:Int)) 0=((tornN t n : Nat) : Int):=by unfold tornN; omega
set_option maxRecDepth 100000 in
set_option maxHeartbeats 2000000 in
theorem pappend_torn (h:Rk p b v B W) (hp:p.Ok) (s xs : Nm) (hx:xs.length≤1000000000) (hB:B≤W.heap.size) (hlen:p.L.length<1000000) (hu:usedE p.L+xs.length≤p.room) (hd:p.dead=false) (ha:p.after=0) (ht:tornN p.torn xs.length≠0) : Calls Tryz.prog 197 #[.pointer (some ⟨b,0,none⟩),.string (str s),.string (str xs)] W fun e W'=>Stp (p.append s xs) b B v W e W':=by
 have F:=Lib.hid (crashes_c h hp)
 have HP:=Lib.hid hp
 have hur : usedE p.L≤1048576:=Nat.le_trans hp.used hp.room
 have hrr : p.room≤1048576:=hp.room
 have hsz:=str_size xs
 clear h hp
 go_enter Tryz.func197,Tryz.ntmps197
 go_wp2_with fail
 refine F.out.mono ?_
 rintro e W1 ⟨c,q,rfl,hq,hc,hr⟩
 have hB1 : B≤W1.heap.size:=Nat.le_trans hB hc.size
 obtain⟨rfl,rfl⟩ : c=1∧q=p.die:=by
  rcases hr with ⟨hd',_⟩ | ⟨_,_,h1,h2⟩ | ⟨_,ha',_⟩
  ·rw [hd] at hd'; cases hd'
  ·exact⟨h1,h2⟩
  ·exact absurd ha ha'
 have HU:=Lib.hid (fun n=>pused_c (hq.below (below_drewN (.refl _ _) n)) HP.out.die)
 obtain⟨⟨_,c1,_⟩,_⟩:=hq.reads
 have hw : IntKind.i64.wrap ((usedE p.die.L : Nat)+(xs.length : Nat) : Int)=(usedE p.die.L : Nat)+(xs.length : Nat):=IntWalk.i64_in _ (by show _≤((usedE p.L : Nat) : Int)+_∧((usedE p.L : Nat) : Int)+_≤_; omega)
 have HE:=Lib.hid (papp_torn (s:=s) (xs:=xs) hd ha hu ht)
 have hui : ¬ (p.die.room : Int)<(usedE p.die.L : Int)+(xs.length : Int):=by show ¬ (p.room : Int)<(usedE p.L : Int)+_; omega
 have H:=Lib.hid (fun n=>And.intro (hq.below (below_drewN (.refl W1.heap.size W1) n)) (hc.trans (Chg.of_below (below_drewN (.refl W1.heap.size W1) n))))
 have hmt:=torn_max p.die.torn xs.length
 have hkl : tornN p.die.torn xs.length≤xs.length:=by unfold tornN; omega
 have hkp : ¬ tornN p.die.torn xs.length=0:=ht
 clear hq hc hd ha F hu hr ht
 rw [show tornN p.torn xs.length=tornN p.die.torn xs.length from rfl] at HE
 generalize tornN p.die.torn xs.length=k at *
 have hki : (0:Int)<(k:Int):=by omega
 have hkl' : (k:Int)≤(xs.length : Int):=by omega
 have hct:=cut_to xs k hkl
 have hz2 : (str (xs.take k)).size=k:=by rw [str_size,List.length_take]; omega
 have hk9 : k≤1000000000:=by omega
 generalize usedE p.die.L=u at *
 generalize p.die.room=rm at *
 go_wp2_with fail
 go_quiet ((go_at_call 236; exact pcalm (HU.out _)))
 replace H:=Lib.hid (H.out nq)
 replace hB1 : B≤(W1.drewN nq).heap.size:=hB1
 generalize W1.drewN nq=W2 at *
 clear HU c1 hw
 have F2:=Lib.hid (find_c H.out.1 s)
 cases hf : (findE p.die.L s).2 with
 | false=>
  have hg:=findE_gone HP.out.up hf
  rw [hf] at F2
  clear hf
  generalize (findE p.die.L s).1=n at *
  go_wp2_with fail
  refine F2.out.mono ?_
  rintro e W3 ⟨rfl,h3⟩
  have H3:=Lib.hid (And.intro (H.out.1.below h3) (H.out.2.trans (Chg.of_below h3)))
  have hB3 : B≤W3.heap.size:=Nat.le_trans hB1 h3.size
  clear H F2 h3
  have HE2:=Lib.hid (HE.out.trans (show ((19:Int),p.die.app s (xs.take k))=(19,{ p.die with L:=putE p.die.L ⟨s,xs.take k,0⟩ }) by unfold Pd.app; rw [show getE p.die.L s=none from hg]; rfl))
  obtain⟨⟨_,_,_,c3,_⟩,_⟩:=(H3.out.1.below ((Below.refl W3.heap.size W3).alloc (Nat.le_refl _) (.cells #[.string (str s),.string { data:=#[] },.int .i64 0] 258))).reads
  go_wp2_with fail
  have hx4:=heap_alloc_new W3 (.cells #[.string (str s),.string { data:=#[] },.int .i64 0] 258)
  obtain⟨x0,x1,x2⟩:=file_cells (e:=⟨s,[],0⟩) hx4
  have z1:=free_of hx4 1
  have hal : Below W3.heap.size W3 (W3.alloc (.cells #[.string (str s),.string { data:=#[] },.int .i64 0] 258)):=(Below.refl _ _).alloc (Nat.le_refl _) _
  have hqW : W.heap.size≤W3.heap.size:=H3.out.2.size
  have hb4 : b≠W3.heap.size:=fun e=>by have:=lt_of H3.out.1.cell; omega
  have hv4 : ∀ k,Value.ownBlock v=some k→k≠W3.heap.size:=fun k hk e=>by have:=(H3.out.1.row.lt k hk).2; omega
  have H4:=Lib.hid (And.intro (H3.out.1.below hal) (And.intro (H3.out.2.trans (Chg.of_below hal)) (And.intro hqW (And.intro hb4 hv4))))
  have hB4 : B≤(W3.alloc (.cells #[.string (str s),.string { data:=#[] },.int .i64 0] 258)).heap.size:=by have:=hal.size; omega
  clear H3 hx4 hal hqW hb4 hv4
  generalize (W3.alloc (.cells #[.string (str s),.string { data:=#[] },.int .i64 0] 258))=W4 at *
  generalize W3.heap.size=q at *
  have hz3 : (str []).size=0:=rfl
  go_region
  go_wp2_with fail
  rw [str_app,List.nil_append]
  have hk5:=H4.out.1.kept (W':=W4.setCell ⟨q,1,none⟩ (.string (str (xs.take k)))) (heap_setCell_other _ _ _ _ H4.out.2.2.2.1) (fun k hk=>heap_setCell_other _ _ _ _ (H4.out.2.2.2.2 k hk))
  have F5:=Lib.hid (pput_c (hk5.below ((Below.refl _ _).drew)) ⟨s,xs.take k,0⟩ (by simpa [World.setCell] using hB4) hlen)
  refine F5.out.mono ?_
  rintro e W5 ⟨rfl,v5,h5,hc5⟩
  have H5:=Lib.hid (And.intro h5 (((H4.out.2.1.setNew H4.out.2.2.1 1 _).trans (Chg.of_below (Below.refl _ _).drew)).trans hc5))
  clear h5 hc5 F5 hk5
  go_wp2_with fail
  go_ret
  exact Stp.mk HE2.out rfl H5.out
 | true=>
  obtain⟨e0,he0,hg⟩:=findE_there hf
  have hnm : e0.name=s:=(getE_mem hg).2
  rw [hf] at F2
  have hlt:=(List.getElem?_eq_some_iff.1 he0).1
  have hn : p.die.L.length≤1000000:=H.out.1.few
  obtain⟨g,c,rfl,hgc⟩:=own3_ptr H.out.1.row (by omega)
  have HE2:=Lib.hid (HE.out.trans (show ((19:Int),p.die.app s (xs.take k))=(19,{ p.die with L:=putE p.die.L ⟨s,e0.bs ++ xs.take k,e0.syn⟩ }) by unfold Pd.app; rw [hg]; rfl))
  have hz1 : e0.bs.length≤1048576:=Nat.le_trans (usedE_le (L:=p.L) hg) hur
  clear hf hg
  generalize (findE p.die.L s).1=n at *
  have hlti : (n:Int)<(p.die.L.length : Int):=by omega
  have hci : (p.die.L.length : Int)≤(c:Int):=by omega
  have hk0 : (0:Int)≤(n:Int):=by omega
  go_wp2_with fail
  refine F2.out.mono ?_
  rintro e W3 ⟨rfl,h3⟩
  have hk:=H.out.1.below h3
  have hB3 : B≤W3.heap.size:=Nat.le_trans hB1 h3.size
  have hal : Below W3.heap.size W3 (W3.alloc (.cells #[.string (str s),.string { data:=#[] },.int .i64 0] 258)):=(Below.refl _ _).alloc (Nat.le_refl _) _
  obtain⟨⟨c2,_⟩,_⟩:=(hk.below hal).reads
  obtain⟨r0,r1,r2⟩:=cellsE_get he0
  have y0:=own3_cell (hk.below hal).row r0
  have y1:=own3_cell (hk.below hal).row r1
  have y2:=own3_cell (hk.below hal).row r2
  have H3:=Lib.hid (And.intro hk (H.out.2.trans (Chg.of_below h3)))
  have HN:=Lib.hid hnm
  have hz0:=str_size e0.bs
  clear H F2 h3 hk hal r0 r1 r2 he0 hnm
  obtain⟨⟨_,_,_,c3,_⟩,_⟩:=(H3.out.1.below ((Below.refl W3.heap.size W3).alloc (Nat.le_refl _) (.cells #[.string (str e0.name),.string (str e0.bs),.int .i64 (e0.syn : Nat)] 258))).reads
  go_wp2_with fail
  have hx4:=heap_alloc_new W3 (.cells #[.string (str e0.name),.string (str e0.bs),.int .i64 (e0.syn : Nat)] 258)
  obtain⟨x0,x1,x2⟩:=file_cells (e:=⟨e0.name,e0.bs,e0.syn⟩) hx4
  have z1:=free_of hx4 1
  have hal : Below W3.heap.size W3 (W3.alloc (.cells #[.string (str e0.name),.string (str e0.bs),.int .i64 (e0.syn : Nat)] 258)):=(Below.refl _ _).alloc (Nat.le_refl _) _
  have hqW : W.heap.size≤W3.heap.size:=H3.out.2.size
  have hb4 : b≠W3.heap.size:=fun e=>by have:=lt_of H3.out.1.cell; omega
  have hv4 : ∀ k,Value.ownBlock (.slice (some ⟨g,0,none⟩) p.die.L.length c)=some k→k≠W3.heap.size:=fun k hk e=>by have:=(H3.out.1.row.lt k hk).2; omega
  have H4:=Lib.hid (And.intro (H3.out.1.below hal) (And.intro (H3.out.2.trans (Chg.of_below hal)) (And.intro hqW (And.intro hb4 hv4))))
  have hB4 : B≤(W3.alloc (.cells #[.string (str e0.name),.string (str e0.bs),.int .i64 (e0.syn : Nat)] 258)).heap.size:=by have:=hal.size; omega
  clear H3 hx4 hal hqW hb4 hv4
  generalize (W3.alloc (.cells #[.string (str e0.name),.string (str e0.bs),.int .i64 (e0.syn : Nat)] 258))=W4 at *
  generalize W3.heap.size=q at *
  go_region
  go_wp2_with fail
  rw [str_app,HN.out]
  have hk5:=H4.out.1.kept (W':=W4.setCell ⟨q,1,none⟩ (.string (str (e0.bs ++ xs.take k)))) (heap_setCell_other _ _ _ _ H4.out.2.2.2.1) (fun k hk=>heap_setCell_other _ _ _ _ (H4.out.2.2.2.2 k hk))
  have F5:=Lib.hid (pput_c (hk5.below ((Below.refl _ _).drew)) ⟨s,e0.bs ++ xs.take k,e0.syn⟩ (by simpa [World.setCell] using hB4) hlen)
  refine F5.out.mono ?_
  rintro e W5 ⟨rfl,v5,h5,hc5⟩
  have H5:=Lib.hid (And.intro h5 (((H4.out.2.1.setNew H4.out.2.2.1 1 _).trans (Chg.of_below (Below.refl _ _).drew)).trans hc5))
  clear h5 hc5 F5 hk5
  go_wp2_with fail
  go_ret
  exact Stp.mk HE2.out rfl H5.out
end
end Go.Proofs.YtekoaheiapddiaaGreat.Dz
end
section
namespace Go.Proofs.YtekoaheiapddiaaGreat.Dz
open Go.RowKit
section
variable {p : Pd} {b B : Nat} {v : Value} {W : World}
set_option maxRecDepth 100000 in
set_option maxHeartbeats 2000000 in
theorem pappend_none (h:Rk p b v B W) (hp:p.Ok) (s xs : Nm) (hx:xs.length≤1000000000) (hB:B≤W.heap.size) (hu:usedE p.L+xs.length≤p.room) (hd:p.dead=false) (ha:p.after=0) (ht:tornN p.torn xs.length=0) : Calls Tryz.prog 197 #[.pointer (some ⟨b,0,none⟩),.string (str s),.string (str xs)] W fun e W'=>Stp (p.append s xs) b B v W e W':=by
 have F:=Lib.hid (crashes_c h hp)
 have HP:=Lib.hid hp
 have hur : usedE p.L≤1048576:=Nat.le_trans hp.used hp.room
 have hrr : p.room≤1048576:=hp.room
 have hsz:=str_size xs
 clear h hp
 go_enter Tryz.func197,Tryz.ntmps197
 go_wp2_with fail
 refine F.out.mono ?_
 rintro e W1 ⟨c,q,rfl,hq,hc,hr⟩
 have hB1 : B≤W1.heap.size:=Nat.le_trans hB hc.size
 obtain⟨rfl,rfl⟩ : c=1∧q=p.die:=by
  rcases hr with ⟨hd',_⟩ | ⟨_,_,h1,h2⟩ | ⟨_,ha',_⟩
  ·rw [hd] at hd'; cases hd'
  ·exact⟨h1,h2⟩
  ·exact absurd ha ha'
 have HU:=Lib.hid (fun n=>pused_c (hq.below (below_drewN (.refl _ _) n)) HP.out.die)
 obtain⟨⟨_,c1,_⟩,_⟩:=hq.reads
 have hw : IntKind.i64.wrap ((usedE p.die.L : Nat)+(xs.length : Nat) : Int)=(usedE p.die.L : Nat)+(xs.length : Nat):=IntWalk.i64_in _ (by show _≤((usedE p.L : Nat) : Int)+_∧((usedE p.L : Nat) : Int)+_≤_; omega)
 have HE:=Lib.hid (papp_none (s:=s) (xs:=xs) hd ha ht)
 have hui : ¬ (p.die.room : Int)<(usedE p.die.L : Int)+(xs.length : Int):=by show ¬ (p.room : Int)<(usedE p.L : Int)+_; omega
 have H:=Lib.hid (fun n=>And.intro (hq.below (below_drewN (.refl W1.heap.size W1) n)) (hc.trans (Chg.of_below (below_drewN (.refl W1.heap.size W1) n))))
 have hmt:=torn_max p.die.torn xs.length
 rw [show tornN p.die.torn xs.length=0 from ht] at hmt
 clear hq hc hd ha F hu hr ht
 generalize usedE p.die.L=u at *
 generalize p.die.room=rm at *
 go_wp2_with fail
 go_quiet ((go_at_call 236; exact pcalm (HU.out _)))
 replace H:=Lib.hid (H.out nq)
 replace hB1 : B≤(W1.drewN nq).heap.size:=hB1
 generalize W1.drewN nq=W2 at *
 clear HU c1 hw
 have F2:=Lib.hid (find_c H.out.1 s)
 cases hf : (findE p.die.L s).2 with
 | false=>
  have hg:=findE_gone HP.out.up hf
  rw [hf] at F2
  clear hf
  generalize (findE p.die.L s).1=n at *
  go_wp2_with fail
  refine F2.out.mono ?_
  rintro e W3 ⟨rfl,h3⟩
  have H3:=Lib.hid (And.intro (H.out.1.below h3) (H.out.2.trans (Chg.of_below h3)))
  have hB3 : B≤W3.heap.size:=Nat.le_trans hB1 h3.size
  clear H F2 h3
  obtain⟨⟨_,_,_,c3,_⟩,_⟩:=(H3.out.1.below ((Below.refl W3.heap.size W3).alloc (Nat.le_refl _) (.cells #[.string (str s),.string { data:=#[] },.int .i64 0] 258))).reads
  go_wp2_with fail
  have hal : Below W3.heap.size W3 (W3.alloc (.cells #[.string (str s),.string { data:=#[] },.int .i64 0] 258)):=(Below.refl _ _).alloc (Nat.le_refl _) _
  go_ret
  exact Stp.mk HE.out rfl ⟨H3.out.1.below hal,H3.out.2.trans (Chg.of_below hal)⟩
 | true=>
  obtain⟨e0,he0,hg⟩:=findE_there hf
  have hnm : e0.name=s:=(getE_mem hg).2
  rw [hf] at F2
  have hlt:=(List.getElem?_eq_some_iff.1 he0).1
  have hn : p.die.L.length≤1000000:=H.out.1.few
  obtain⟨g,c,rfl,hgc⟩:=own3_ptr H.out.1.row (by omega)
  have hz1 : e0.bs.length≤1048576:=Nat.le_trans (usedE_le (L:=p.L) hg) hur
  clear hf hg
  generalize (findE p.die.L s).1=n at *
  have hlti : (n:Int)<(p.die.L.length : Int):=by omega
  have hci : (p.die.L.length : Int)≤(c:Int):=by omega
  have hk0 : (0:Int)≤(n:Int):=by omega
  go_wp2_with fail
  refine F2.out.mono ?_
  rintro e W3 ⟨rfl,h3⟩
  have hk:=H.out.1.below h3
  have hB3 : B≤W3.heap.size:=Nat.le_trans hB1 h3.size
  have hal : Below W3.heap.size W3 (W3.alloc (.cells #[.string (str s),.string { data:=#[] },.int .i64 0] 258)):=(Below.refl _ _).alloc (Nat.le_refl _) _
  obtain⟨⟨c2,_⟩,_⟩:=(hk.below hal).reads
  obtain⟨r0,r1,r2⟩:=cellsE_get he0
  have y0:=own3_cell (hk.below hal).row r0
  have y1:=own3_cell (hk.below hal).row r1
  have y2:=own3_cell (hk.below hal).row r2
  have H3:=Lib.hid (And.intro hk (H.out.2.trans (Chg.of_below h3)))
  have HN:=Lib.hid hnm
  have hz0:=str_size e0.bs
  clear H F2 h3 hk hal r0 r1 r2 he0 hnm
  obtain⟨⟨_,_,_,c3,_⟩,_⟩:=(H3.out.1.below ((Below.refl W3.heap.size W3).alloc (Nat.le_refl _) (.cells #[.string (str e0.name),.string (str e0.bs),.int .i64 (e0.syn : Nat)] 258))).reads
  go_wp2_with fail
  have hal : Below W3.heap.size W3 (W3.alloc (.cells #[.string (str e0.name),.string (str e0.bs),.int .i64 (e0.syn : Nat)] 258)):=(Below.refl _ _).alloc (Nat.le_refl _) _
  go_ret
  exact Stp.mk HE.out rfl ⟨H3.out.1.below hal,H3.out.2.trans (Chg.of_below hal)⟩
theorem pappend_c (h:Rk p b v B W) (hp:p.Ok) (s xs : Nm) (hx:xs.length≤1000000000) (hB:B≤W.heap.size) (hlen:p.L.length<1000000) : Calls Tryz.prog 197 #[.pointer (some ⟨b,0,none⟩),.string (str s),.string (str xs)] W fun e W'=>Stp (p.append s xs) b B v W e W':=by
 by_cases hu : p.dead=true∨¬ usedE p.L+xs.length≤p.room
 ·exact pappend_full h hp s xs (by omega) hu
 ·have hd : p.dead=false:=by cases hd : p.dead with
   | true=>exact absurd (Or.inl hd) hu
   | false=>rfl
  have hu' : usedE p.L+xs.length≤p.room:=Classical.byContradiction fun h=>hu (Or.inr h)
  by_cases ha : p.after=0
  ·by_cases ht : tornN p.torn xs.length=0
   ·exact pappend_none h hp s xs hx hB hu' hd ha ht
   ·exact pappend_torn h hp s xs hx hB hlen hu' hd ha ht
  ·exact pappend_all h hp s xs hx hB hlen hu' hd ha
end
end Go.Proofs.YtekoaheiapddiaaGreat.Dz
end
section
namespace Go.Proofs.YtekoaheiapddiaaGreat.Dz
open Go.RowKit
theorem putE_len (L:List Ent) (e:Ent) : (putE L e).length≤L.length+1:=by
 induction L with
 | nil=>simp [putE]
 | cons x r ih=>
  simp only [putE]
  split
  ·simp
  ·split
   ·simp
   ·simp only [List.length_cons]; omega
theorem putE_len_there {L : List Ent} (hU:Up L) {e f : Ent} (h:getE L e.name=some f) : (putE L e).length=L.length:=by
 induction L with
 | nil=>cases h
 | cons x r ih=>
  obtain⟨h1,h2⟩:=hU
  simp only [putE]
  simp only [getE] at h
  split
  ·rename_i hl
   exfalso
   split at h
   ·rename_i hx; rw [hx] at hl; exact nlt _ hl
   ·obtain⟨k1,k2⟩:=getE_mem h
    have:=h1 f k1
    rw [k2] at this
    exact nlt _ (ntr hl this)
  ·split
   ·simp
   ·rename_i hx
    rw [if_neg hx] at h
    simp only [List.length_cons,ih h2 h]
structure Gr (k:Nat) (p q : Pd) : Prop where
 ok : q.Ok
 len : q.L.length≤p.L.length+k
 room : q.room=p.room
theorem Gr.refl {p : Pd} (h:p.Ok) : Gr 0 p p:=⟨h,by omega,rfl⟩
theorem Gr.trans {k m : Nat} {p q r : Pd} (h:Gr k p q) (g:Gr m q r) : Gr (k+m) p r:=⟨g.ok,by have:=h.len; have:=g.len; omega,g.room.trans h.room⟩
theorem Gr.mono {k m : Nat} {p q : Pd} (h:Gr k p q) (hm:k≤m) : Gr m p q:=⟨h.ok,by have:=h.len; omega,h.room⟩
section
variable {p : Pd} {s t xs : Nm}
theorem gr_tick (h:p.Ok) : Gr 0 p p.tick:=⟨h.tick,Nat.le_refl _,rfl⟩
theorem gr_die (h:p.Ok) : Gr 0 p p.die:=⟨h.die,Nat.le_refl _,rfl⟩
theorem gr_append (h:p.Ok) (s xs : Nm) : Gr 1 p (p.append s xs).2:=by
 unfold Pd.append
 split
 ·exact (Gr.refl h).mono (by omega)
 ·split
  ·split
   ·rename_i hf
    refine⟨h.die.app ?_,putE_len _ _,rfl⟩
    have:=hf.1
    show usedE p.L+(xs.take (tornN p.torn xs.length)).length≤p.room
    rw [List.length_take]; omega
   ·exact (gr_die h).mono (by omega)
  ·split
   ·rename_i hf
    exact⟨h.tick.app hf,putE_len _ _,rfl⟩
   ·exact (gr_tick h).mono (by omega)
theorem gr_sync (h:p.Ok) (s:Nm) : Gr 0 p (p.sync s).2:=by
 unfold Pd.sync Pd.change
 split
 ·exact Gr.refl h
 ·split
  ·exact gr_die h
  ·cases hg : getE p.L s with
   | none=>exact gr_tick h
   | some e=>exact⟨(h.putS hg e.bs.length (Nat.le_refl _)).2,Nat.le_of_eq (putE_len_there h.up (e:=⟨s,e.bs,e.bs.length⟩) hg),rfl⟩
theorem Gr.step {k m : Nat} {f : Pd→Int×Pd} {r : List (Pd→Int×Pd)} (hf:Gr k p (f p).2) (hr:Gr m (f p).2 (runP (f p).2 r).2) : Gr (k+m) p (runP p (f :: r)).2:=by
 rw [runP]
 split
 ·exact hf.trans hr
 ·exact hf.mono (by omega)
theorem gr_nil (h:p.Ok) : Gr 0 p (runP p []).2:=Gr.refl h
theorem gr_add (h:p.Ok) (name s : Nm) : Gr 1 p (p.add name s).2:=by
 unfold Pd.add
 split
 ·have h1:=gr_append h name (fr s)
  have h2:=gr_sync h1.ok name
  exact Gr.step (k:=1) (m:=0) h1 (Gr.step (k:=0) (m:=0) h2 (gr_nil h2.ok))
 ·exact (Gr.refl h).mono (by omega)
end
end Go.Proofs.YtekoaheiapddiaaGreat.Dz
end
section
namespace Go.Proofs.YtekoaheiapddiaaGreat.Dz
open Go.RowKit
section
variable {p : Pd} {b B : Nat} {v : Value} {W : World}
theorem str_cut (s:Nm) (k:Nat) (hk:k≤s.length) (V:World) : (Instr.slice 9 (.string (str s)) none (some (.int .i64 (k:Int))) none).run Tryz.prog V=.ok (.string (str (s.take k))) V:=by
 have:=cut_to s k hk
 first | exact this V | exact this
end
end Go.Proofs.YtekoaheiapddiaaGreat.Dz
end
section
namespace Go.Proofs.YtekoaheiapddiaaGreat.Dz
open Go.RowKit
section
variable {p : Pd} {b B : Nat} {v : Value} {W : World}
theorem runP_one (p:Pd) (f:Pd→Int×Pd) : runP p [f]=f p:=by
 show (if (f p).1=0 then ((0:Int),(f p).2) else f p)=f p
 split
 ·rename_i h; rw [← h]
 ·rfl
theorem runP_stop {p : Pd} {f : Pd→Int×Pd} {r : List (Pd→Int×Pd)} (h:¬ (f p).1=0) : runP p (f :: r)=f p:=by rw [runP,if_neg h]
theorem runP_on {p : Pd} {f : Pd→Int×Pd} {r : List (Pd→Int×Pd)} (h:(f p).1=0) : runP p (f :: r)=runP (f p).2 r:=by rw [runP,if_pos h]
theorem Stp.by {r r' : Int×Pd} {c : Int} {v' : Value} {e : Ending} {W' : World} (hr:r=r') (hc:r'.1=c) (he:e=.returned (.int .i64 c)) (h:Rk r'.2 b v' B W'∧Chg (Rk.ft b v) (Rk.ft b v') W W') : Stp r b B v W e W':=by subst hr; subst hc; exact⟨he,v',h⟩
set_option maxRecDepth 100000 in
set_option maxHeartbeats 1000000 in
theorem padd_c (h:Rk p b v B W) (hp:p.Ok) (name s : Nm) (hB:B≤W.heap.size) (hlen:p.L.length<1000000) : Calls Tryz.prog 163 #[.pointer (some ⟨b,0,none⟩),.string (str name),.string (str s)] W fun e W'=>Stp (p.add name s) b B v W e W':=by
 by_cases hl : s.length≤65536
 ·have hadd : p.add name s=runP p [(·.append name (fr s)),(·.sync name)]:=if_pos hl
  have F:=Lib.hid (rframe_c s hl W)
  have hfl : (fr s).length≤1000000000:=by rw [fr_len]; omega
  have A:=Lib.hid (fun V (hV:Below W.heap.size W V)=>pappend_c (h.below hV) hp name (fr s) hfl (Nat.le_trans hB hV.size) hlen)
  have HG:=Lib.hid (gr_append hp name (fr s))
  have HA:=Lib.hid hadd
  clear h hp hl hB hlen hadd hfl
  go_enter Tryz.func163,Tryz.ntmps163
  go_wp2_with fail
  refine F.out.mono ?_
  rintro e w1 ⟨rfl,h1⟩
  have A1:=Lib.hid (A.out w1 h1)
  have H1:=Lib.hid h1
  clear h1 A F
  go_wp2_with fail
  refine A1.out.mono ?_
  rintro e w2 ⟨rfl,v2,k1,k2⟩
  have S2:=Lib.hid (psync_c k1 HG.out.ok name)
  have K:=Lib.hid (And.intro k1 ((Chg.of_below (F:=Rk.ft b v) H1.out).trans k2))
  clear k1 k2 A1
  by_cases h0 : (p.append name (fr s)).1=0
  ·have HR:=Lib.hid ((HA.out.trans (runP_on (f:=(·.append name (fr s))) h0)).trans (runP_one _ _))
   clear HA
   rw [h0]
   clear h0
   go_wp2_with fail
   refine S2.out.mono ?_
   rintro e w3 ⟨rfl,v3,k1,k2⟩
   have K3:=Lib.hid (And.intro k1 (K.out.2.trans k2))
   clear k1 k2 S2
   generalize hc : ((p.append name (fr s)).2.sync name).1=c at *
   have HC:=Lib.hid hc
   clear hc
   go_wp2_with fail
   go_ret
   exact Stp.by HR.out HC.out rfl K3.out
  ·have HR:=Lib.hid (HA.out.trans (runP_stop (f:=(·.append name (fr s))) h0))
   clear HA S2
   generalize hc : (p.append name (fr s)).1=c at *
   have HC:=Lib.hid hc
   clear hc
   go_wp2_with fail
   go_ret
   exact Stp.by HR.out HC.out rfl K.out
 ·have hadd : p.add name s=(3,p):=if_neg hl
  have F:=Lib.hid (rframe_long (str s) (by rw [str_size]; omega) W)
  have HA:=Lib.hid hadd
  have H:=Lib.hid h
  clear h hp hl hB hlen hadd
  generalize str s=y at *
  go_enter Tryz.func163,Tryz.ntmps163
  go_wp2_with fail
  refine F.out.mono ?_
  rintro e w1 ⟨rfl,rfl⟩
  clear F
  go_wp2_with fail
  go_ret
  exact Stp.by HA.out rfl rfl ⟨H.out,Chg.refl _ _⟩
end
end Go.Proofs.YtekoaheiapddiaaGreat.Dz
end
section
namespace Go.Proofs.YtekoaheiapddiaaGreat.Dz
open Go.RowKit
section
variable {p : Pd} {b B : Nat} {v : Value} {W : World}
theorem OwnS.from {B B' : Nat} {l : List Nm} {v : Value} {W : World} (h:OwnS B l v W) (hB:B'≤B) : OwnS B' l v W:=by
 refine⟨h.1,?_⟩
 rcases h.2 with h0 | ⟨g,cap,cur,h1,h2,h3⟩
 ·exact Or.inl h0
 ·exact Or.inr ⟨g,cap,cur,h1,by omega,h3⟩
set_option maxRecDepth 100000 in
theorem pall_c (h:Rk p b v B W) (hp:p.Ok) (name:Nm) {l : List Nm} {r : Nm} (hF:Fs (bsE (getE p.L name)) l r) : Calls Tryz.prog 55 #[.pointer (some ⟨b,0,none⟩),.string (str name)] W fun e W'=>∃ v,e=.returned v∧OwnS W.heap.size l v W'∧Below W.heap.size W W':=by
 have hb:=bs_le hp name
 have R:=Lib.hid (pread_c h hp.up name)
 rw [readV_eq] at R
 have F:=Lib.hid (fun V=>rframes_c (bsE (getE p.L name)) (by omega) V)
 have H:=Lib.hid hF
 clear h hp hb hF
 generalize str (bsE (getE p.L name))=y at *
 generalize (getE p.L name).isSome=ok at *
 go_enter Tryz.func55,Tryz.ntmps55
 go_wp2_with fail
 refine R.out.mono ?_
 rintro e w1 ⟨rfl,h1⟩
 have B1:=Lib.hid h1
 clear h1 R
 go_wp2_with fail
 refine (F.out _).mono ?_
 rintro e w2 ⟨l2,r2,v2,rfl,k1,k2,k3⟩
 obtain⟨rfl,rfl⟩:=k1.inj H.out
 have K:=Lib.hid (And.intro k2 k3)
 clear k1 k2 k3 F
 go_wp2_with fail
 go_ret
 exact⟨_,rfl,K.out.1.from B1.out.size,B1.out.trans (K.out.2.mono B1.out.size)⟩
end
end Go.Proofs.YtekoaheiapddiaaGreat.Dz
end
