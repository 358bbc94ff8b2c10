import Derived.Test.YtmjekklgefdolaaGreatDoorCards
import Derived.Test.YtmjekklgefdolaaGreatDoorTie
import Derived.Lib.LazyBuf
import Derived.Test.YtmjekklgefdolaaGreatDoorWr6
namespace Go.Proofs.YtmjekklgefdolaaGreatDoor
open Go.RowKit
set_option maxRecDepth 100000 in
set_option maxHeartbeats 1600000 in
theorem owner_17 {T:Tags} {base B M M':Nat} {σ:Sig} {w:World} (h:Inv T base B M σ w) (o:OpR) (hok:o.ok) (hk:o.kind=17) (hs:o.s.size≤M) (ht:o.t.size≤M) (hM:M<M') (hM2:M'≤1073741824):
  Calls Tryz.prog 31 #[.pointer (some ⟨B,0,none⟩),opV o] w fun e w'=>e = .returned (.bool true)∧Done base B M' w w':=by
 have z17:(o.kind==17)=true:=beq_iff_eq.2 hk
 have hb0:Below w.heap.size w (w.alloc (.cells #[.int .i64 o.kind,.int .i64 o.a,.int .i64 o.b,.int .i64 o.c,.string o.s,.string o.t] 28)):=(Below.refl _ _).alloc (Nat.le_refl _) _
 have hA:=h.below hb0
 have hbase:=h.bsz
 have HA:=hide hA
 have HB:=hide hb0
 have HO:=hide hok
 unfold opV
 clear hA hb0 h hok hk
 go_enter Tryz.func31,Tryz.ntmps31
 go_wp2_with fail
 refine (long_any HA.out o HO.out (by omega)).mono ?_
 rintro e w2 ⟨t,rfl,hts,hb2⟩
 have hsl:w.heap.size<(w.alloc (.cells #[.int .i64 o.kind,.int .i64 o.a,.int .i64 o.b,.int .i64 o.c,.string o.s,.string o.t] 28)).heap.size:=by simp
 have e0:w2.cell? ⟨w.heap.size,0,none⟩=some (.int .i64 o.kind):=(hb2.cell hsl).trans (World.cell?_alloc_at _ _ _ _ rfl)
 have e1:w2.cell? ⟨w.heap.size,1,none⟩=some (.int .i64 o.a):=(hb2.cell hsl).trans (World.cell?_alloc_at _ _ _ _ rfl)
 have e2:w2.cell? ⟨w.heap.size,2,none⟩=some (.int .i64 o.b):=(hb2.cell hsl).trans (World.cell?_alloc_at _ _ _ _ rfl)
 have e3:w2.cell? ⟨w.heap.size,3,none⟩=some (.int .i64 o.c):=(hb2.cell hsl).trans (World.cell?_alloc_at _ _ _ _ rfl)
 have e4:w2.cell? ⟨w.heap.size,4,none⟩=some (.string o.s):=(hb2.cell hsl).trans (World.cell?_alloc_at _ _ _ _ rfl)
 have e5:w2.cell? ⟨w.heap.size,5,none⟩=some (.string o.t):=(hb2.cell hsl).trans (World.cell?_alloc_at _ _ _ _ rfl)
 have HI:=hide (HA.out.below hb2)
 have HT:fresh (fresh T w (9,9)) (w.alloc (.cells #[.int .i64 o.kind,.int .i64 o.a,.int .i64 o.b,.int .i64 o.c,.string o.s,.string o.t] 28)) (9,9) w.heap.size=(9,9):=by rw[fresh_old _ _ _ _ hsl];exact fresh_new _ _ _ _ (Nat.le_refl _)
 have HB2:Below w.heap.size w w2:=HB.out.trans (hb2.mono (by simp))
 replace HB2:=hide (HB2.mono hbase)
 generalize (fresh (fresh T w (9,9)) (w.alloc (.cells #[.int .i64 o.kind,.int .i64 o.a,.int .i64 o.b,.int .i64 o.c,.string o.s,.string o.t] 28)) (9,9))=T2 at *
 clear hb2 HA HB hsl hbase
 generalize w.heap.size=sb at *
 go_wp2_with fail
 refine (word_any HI.out o.s hM hM2 (by omega)).mono ?_
 rintro e w6 ⟨rfl,T6,v6,hI6,hS6⟩
 have HF:Done base B M' w w6:=⟨T6,_,hI6,HB2.out.trans (hS6.below HI.out.bsz HI.out.old (by simp))⟩
 replace HF:=hide HF
 clear hI6 hS6 HI HB2
 go_wp2
 go_ret
 exact ⟨rfl,HF.out⟩
set_option maxRecDepth 100000 in
set_option maxHeartbeats 1600000 in
theorem owner_4 {T:Tags} {base B M M':Nat} {σ:Sig} {w:World} (h:Inv T base B M σ w) (o:OpR) (hok:o.ok) (hk:o.kind=4) (_hs:o.s.size≤M) (ht:o.t.size≤M) (hM:M<M') (hM2:M'≤1073741824):
  Calls Tryz.prog 31 #[.pointer (some ⟨B,0,none⟩),opV o] w fun e w'=>e = .returned (.bool true)∧Done base B M' w w':=by
 have z17:(o.kind==17)=false:=beq_eq_false_iff_ne.2 (by rw[hk];decide)
 have z4:(o.kind==4)=true:=beq_iff_eq.2 hk
 have hb0:Below w.heap.size w (w.alloc (.cells #[.int .i64 o.kind,.int .i64 o.a,.int .i64 o.b,.int .i64 o.c,.string o.s,.string o.t] 28)):=(Below.refl _ _).alloc (Nat.le_refl _) _
 have hA:=h.below hb0
 have hbase:=h.bsz
 have HA:=hide hA
 have HB:=hide hb0
 have HO:=hide hok
 unfold opV
 clear hA hb0 h hok hk
 go_enter Tryz.func31,Tryz.ntmps31
 go_wp2_with fail
 refine (long_any HA.out o HO.out (by omega)).mono ?_
 rintro e w2 ⟨t,rfl,hts,hb2⟩
 have hsl:w.heap.size<(w.alloc (.cells #[.int .i64 o.kind,.int .i64 o.a,.int .i64 o.b,.int .i64 o.c,.string o.s,.string o.t] 28)).heap.size:=by simp
 have e0:w2.cell? ⟨w.heap.size,0,none⟩=some (.int .i64 o.kind):=(hb2.cell hsl).trans (World.cell?_alloc_at _ _ _ _ rfl)
 have e1:w2.cell? ⟨w.heap.size,1,none⟩=some (.int .i64 o.a):=(hb2.cell hsl).trans (World.cell?_alloc_at _ _ _ _ rfl)
 have e2:w2.cell? ⟨w.heap.size,2,none⟩=some (.int .i64 o.b):=(hb2.cell hsl).trans (World.cell?_alloc_at _ _ _ _ rfl)
 have e3:w2.cell? ⟨w.heap.size,3,none⟩=some (.int .i64 o.c):=(hb2.cell hsl).trans (World.cell?_alloc_at _ _ _ _ rfl)
 have e4:w2.cell? ⟨w.heap.size,4,none⟩=some (.string o.s):=(hb2.cell hsl).trans (World.cell?_alloc_at _ _ _ _ rfl)
 have e5:w2.cell? ⟨w.heap.size,5,none⟩=some (.string o.t):=(hb2.cell hsl).trans (World.cell?_alloc_at _ _ _ _ rfl)
 have HI:=hide (HA.out.below hb2)
 have HT:fresh (fresh T w (9,9)) (w.alloc (.cells #[.int .i64 o.kind,.int .i64 o.a,.int .i64 o.b,.int .i64 o.c,.string o.s,.string o.t] 28)) (9,9) w.heap.size=(9,9):=by rw[fresh_old _ _ _ _ hsl];exact fresh_new _ _ _ _ (Nat.le_refl _)
 have HB2:Below w.heap.size w w2:=HB.out.trans (hb2.mono (by simp))
 replace HB2:=hide (HB2.mono hbase)
 generalize (fresh (fresh T w (9,9)) (w.alloc (.cells #[.int .i64 o.kind,.int .i64 o.a,.int .i64 o.b,.int .i64 o.c,.string o.s,.string o.t] 28)) (9,9))=T2 at *
 clear hb2 HA HB hsl hbase
 generalize w.heap.size=sb at *
 have c11:=HI.out.hw.1.cell (i:=11) rfl
 have hf:=HI.out.hw.1.frozen
 have HF:Done base B M' w (w2.setCell ⟨B,11,none⟩ (.string t)):=by
  obtain ⟨i1,i2⟩:=HI.out.scal 11 (.string t) t σ.key σ.nonce σ.fr σ.n σ.ex rfl hts HI.out.sizes.2.2.2.2.1 HI.out.sizes.2.2.2.2.2
  exact ⟨_,_,i1.more (Nat.le_of_lt hM) hM2,HB2.out.trans i2⟩
 replace HF:=hide HF
 clear HI HB2
 go_wp2
 go_ret
 exact ⟨rfl,HF.out⟩
set_option maxRecDepth 100000 in
set_option maxHeartbeats 1600000 in
theorem owner_24 {T:Tags} {base B M M':Nat} {σ:Sig} {w:World} (h:Inv T base B M σ w) (o:OpR) (hok:o.ok) (hk:o.kind=24) (_hs:o.s.size≤M) (ht:o.t.size≤M) (hM:M<M') (hM2:M'≤1073741824):
  Calls Tryz.prog 31 #[.pointer (some ⟨B,0,none⟩),opV o] w fun e w'=>e = .returned (.bool true)∧Done base B M' w w':=by
 have z17:(o.kind==17)=false:=beq_eq_false_iff_ne.2 (by rw[hk];decide)
 have z4:(o.kind==4)=false:=beq_eq_false_iff_ne.2 (by rw[hk];decide)
 have z24:(o.kind==24)=true:=beq_iff_eq.2 hk
 have hb0:Below w.heap.size w (w.alloc (.cells #[.int .i64 o.kind,.int .i64 o.a,.int .i64 o.b,.int .i64 o.c,.string o.s,.string o.t] 28)):=(Below.refl _ _).alloc (Nat.le_refl _) _
 have hA:=h.below hb0
 have hbase:=h.bsz
 have HA:=hide hA
 have HB:=hide hb0
 have HO:=hide hok
 unfold opV
 clear hA hb0 h hok hk
 go_enter Tryz.func31,Tryz.ntmps31
 go_wp2_with fail
 refine (long_any HA.out o HO.out (by omega)).mono ?_
 rintro e w2 ⟨t,rfl,hts,hb2⟩
 have hsl:w.heap.size<(w.alloc (.cells #[.int .i64 o.kind,.int .i64 o.a,.int .i64 o.b,.int .i64 o.c,.string o.s,.string o.t] 28)).heap.size:=by simp
 have e0:w2.cell? ⟨w.heap.size,0,none⟩=some (.int .i64 o.kind):=(hb2.cell hsl).trans (World.cell?_alloc_at _ _ _ _ rfl)
 have e1:w2.cell? ⟨w.heap.size,1,none⟩=some (.int .i64 o.a):=(hb2.cell hsl).trans (World.cell?_alloc_at _ _ _ _ rfl)
 have e2:w2.cell? ⟨w.heap.size,2,none⟩=some (.int .i64 o.b):=(hb2.cell hsl).trans (World.cell?_alloc_at _ _ _ _ rfl)
 have e3:w2.cell? ⟨w.heap.size,3,none⟩=some (.int .i64 o.c):=(hb2.cell hsl).trans (World.cell?_alloc_at _ _ _ _ rfl)
 have e4:w2.cell? ⟨w.heap.size,4,none⟩=some (.string o.s):=(hb2.cell hsl).trans (World.cell?_alloc_at _ _ _ _ rfl)
 have e5:w2.cell? ⟨w.heap.size,5,none⟩=some (.string o.t):=(hb2.cell hsl).trans (World.cell?_alloc_at _ _ _ _ rfl)
 have HI:=hide (HA.out.below hb2)
 have HT:fresh (fresh T w (9,9)) (w.alloc (.cells #[.int .i64 o.kind,.int .i64 o.a,.int .i64 o.b,.int .i64 o.c,.string o.s,.string o.t] 28)) (9,9) w.heap.size=(9,9):=by rw[fresh_old _ _ _ _ hsl];exact fresh_new _ _ _ _ (Nat.le_refl _)
 have HB2:Below w.heap.size w w2:=HB.out.trans (hb2.mono (by simp))
 replace HB2:=hide (HB2.mono hbase)
 generalize (fresh (fresh T w (9,9)) (w.alloc (.cells #[.int .i64 o.kind,.int .i64 o.a,.int .i64 o.b,.int .i64 o.c,.string o.s,.string o.t] 28)) (9,9))=T2 at *
 clear hb2 HA HB hsl hbase
 generalize w.heap.size=sb at *
 have c11:=HI.out.hw.1.cell (i:=12) rfl
 have hf:=HI.out.hw.1.frozen
 have HF:Done base B M' w (w2.setCell ⟨B,12,none⟩ (.string t)):=by
  obtain ⟨i1,i2⟩:=HI.out.scal 12 (.string t) σ.file t σ.nonce σ.fr σ.n σ.ex rfl HI.out.sizes.2.2.2.1 hts HI.out.sizes.2.2.2.2.2
  exact ⟨_,_,i1.more (Nat.le_of_lt hM) hM2,HB2.out.trans i2⟩
 replace HF:=hide HF
 clear HI HB2
 go_wp2
 go_ret
 exact ⟨rfl,HF.out⟩
set_option maxRecDepth 100000 in
set_option maxHeartbeats 1600000 in
theorem owner_25 {T:Tags} {base B M M':Nat} {σ:Sig} {w:World} (h:Inv T base B M σ w) (o:OpR) (hok:o.ok) (hk:o.kind=25) (_hs:o.s.size≤M) (ht:o.t.size≤M) (hM:M<M') (hM2:M'≤1073741824):
  Calls Tryz.prog 31 #[.pointer (some ⟨B,0,none⟩),opV o] w fun e w'=>e = .returned (.bool true)∧Done base B M' w w':=by
 have z17:(o.kind==17)=false:=beq_eq_false_iff_ne.2 (by rw[hk];decide)
 have z4:(o.kind==4)=false:=beq_eq_false_iff_ne.2 (by rw[hk];decide)
 have z24:(o.kind==24)=false:=beq_eq_false_iff_ne.2 (by rw[hk];decide)
 have z25:(o.kind==25)=true:=beq_iff_eq.2 hk
 have hb0:Below w.heap.size w (w.alloc (.cells #[.int .i64 o.kind,.int .i64 o.a,.int .i64 o.b,.int .i64 o.c,.string o.s,.string o.t] 28)):=(Below.refl _ _).alloc (Nat.le_refl _) _
 have hA:=h.below hb0
 have hbase:=h.bsz
 have HA:=hide hA
 have HB:=hide hb0
 have HO:=hide hok
 unfold opV
 clear hA hb0 h hok hk
 go_enter Tryz.func31,Tryz.ntmps31
 go_wp2_with fail
 refine (long_any HA.out o HO.out (by omega)).mono ?_
 rintro e w2 ⟨t,rfl,hts,hb2⟩
 have hsl:w.heap.size<(w.alloc (.cells #[.int .i64 o.kind,.int .i64 o.a,.int .i64 o.b,.int .i64 o.c,.string o.s,.string o.t] 28)).heap.size:=by simp
 have e0:w2.cell? ⟨w.heap.size,0,none⟩=some (.int .i64 o.kind):=(hb2.cell hsl).trans (World.cell?_alloc_at _ _ _ _ rfl)
 have e1:w2.cell? ⟨w.heap.size,1,none⟩=some (.int .i64 o.a):=(hb2.cell hsl).trans (World.cell?_alloc_at _ _ _ _ rfl)
 have e2:w2.cell? ⟨w.heap.size,2,none⟩=some (.int .i64 o.b):=(hb2.cell hsl).trans (World.cell?_alloc_at _ _ _ _ rfl)
 have e3:w2.cell? ⟨w.heap.size,3,none⟩=some (.int .i64 o.c):=(hb2.cell hsl).trans (World.cell?_alloc_at _ _ _ _ rfl)
 have e4:w2.cell? ⟨w.heap.size,4,none⟩=some (.string o.s):=(hb2.cell hsl).trans (World.cell?_alloc_at _ _ _ _ rfl)
 have e5:w2.cell? ⟨w.heap.size,5,none⟩=some (.string o.t):=(hb2.cell hsl).trans (World.cell?_alloc_at _ _ _ _ rfl)
 have HI:=hide (HA.out.below hb2)
 have HT:fresh (fresh T w (9,9)) (w.alloc (.cells #[.int .i64 o.kind,.int .i64 o.a,.int .i64 o.b,.int .i64 o.c,.string o.s,.string o.t] 28)) (9,9) w.heap.size=(9,9):=by rw[fresh_old _ _ _ _ hsl];exact fresh_new _ _ _ _ (Nat.le_refl _)
 have HB2:Below w.heap.size w w2:=HB.out.trans (hb2.mono (by simp))
 replace HB2:=hide (HB2.mono hbase)
 generalize (fresh (fresh T w (9,9)) (w.alloc (.cells #[.int .i64 o.kind,.int .i64 o.a,.int .i64 o.b,.int .i64 o.c,.string o.s,.string o.t] 28)) (9,9))=T2 at *
 clear hb2 HA HB hsl hbase
 generalize w.heap.size=sb at *
 have c11:=HI.out.hw.1.cell (i:=13) rfl
 have hf:=HI.out.hw.1.frozen
 have HF:Done base B M' w (w2.setCell ⟨B,13,none⟩ (.string t)):=by
  obtain ⟨i1,i2⟩:=HI.out.scal 13 (.string t) σ.file σ.key t σ.fr σ.n σ.ex rfl HI.out.sizes.2.2.2.1 HI.out.sizes.2.2.2.2.1 hts
  exact ⟨_,_,i1.more (Nat.le_of_lt hM) hM2,HB2.out.trans i2⟩
 replace HF:=hide HF
 clear HI HB2
 go_wp2
 go_ret
 exact ⟨rfl,HF.out⟩
set_option maxRecDepth 100000 in
set_option maxHeartbeats 1600000 in
theorem owner_18 {T:Tags} {base B M M':Nat} {σ:Sig} {w:World} (h:Inv T base B M σ w) (o:OpR) (hok:o.ok) (hk:o.kind=18) (_hs:o.s.size≤M) (ht:o.t.size≤M) (hM:M<M') (hM2:M'≤1073741824):
  Calls Tryz.prog 31 #[.pointer (some ⟨B,0,none⟩),opV o] w fun e w'=>e = .returned (.bool true)∧Done base B M' w w':=by
 have z17:(o.kind==17)=false:=beq_eq_false_iff_ne.2 (by rw[hk];decide)
 have z4:(o.kind==4)=false:=beq_eq_false_iff_ne.2 (by rw[hk];decide)
 have z24:(o.kind==24)=false:=beq_eq_false_iff_ne.2 (by rw[hk];decide)
 have z25:(o.kind==25)=false:=beq_eq_false_iff_ne.2 (by rw[hk];decide)
 have z18:(o.kind==18)=true:=beq_iff_eq.2 hk
 have hb0:Below w.heap.size w (w.alloc (.cells #[.int .i64 o.kind,.int .i64 o.a,.int .i64 o.b,.int .i64 o.c,.string o.s,.string o.t] 28)):=(Below.refl _ _).alloc (Nat.le_refl _) _
 have hA:=h.below hb0
 have hbase:=h.bsz
 have HA:=hide hA
 have HB:=hide hb0
 have HO:=hide hok
 unfold opV
 clear hA hb0 h hok hk
 go_enter Tryz.func31,Tryz.ntmps31
 go_wp2_with fail
 refine (long_any HA.out o HO.out (by omega)).mono ?_
 rintro e w2 ⟨t,rfl,hts,hb2⟩
 have hsl:w.heap.size<(w.alloc (.cells #[.int .i64 o.kind,.int .i64 o.a,.int .i64 o.b,.int .i64 o.c,.string o.s,.string o.t] 28)).heap.size:=by simp
 have e0:w2.cell? ⟨w.heap.size,0,none⟩=some (.int .i64 o.kind):=(hb2.cell hsl).trans (World.cell?_alloc_at _ _ _ _ rfl)
 have e1:w2.cell? ⟨w.heap.size,1,none⟩=some (.int .i64 o.a):=(hb2.cell hsl).trans (World.cell?_alloc_at _ _ _ _ rfl)
 have e2:w2.cell? ⟨w.heap.size,2,none⟩=some (.int .i64 o.b):=(hb2.cell hsl).trans (World.cell?_alloc_at _ _ _ _ rfl)
 have e3:w2.cell? ⟨w.heap.size,3,none⟩=some (.int .i64 o.c):=(hb2.cell hsl).trans (World.cell?_alloc_at _ _ _ _ rfl)
 have e4:w2.cell? ⟨w.heap.size,4,none⟩=some (.string o.s):=(hb2.cell hsl).trans (World.cell?_alloc_at _ _ _ _ rfl)
 have e5:w2.cell? ⟨w.heap.size,5,none⟩=some (.string o.t):=(hb2.cell hsl).trans (World.cell?_alloc_at _ _ _ _ rfl)
 have HI:=hide (HA.out.below hb2)
 have HT:fresh (fresh T w (9,9)) (w.alloc (.cells #[.int .i64 o.kind,.int .i64 o.a,.int .i64 o.b,.int .i64 o.c,.string o.s,.string o.t] 28)) (9,9) w.heap.size=(9,9):=by rw[fresh_old _ _ _ _ hsl];exact fresh_new _ _ _ _ (Nat.le_refl _)
 have HB2:Below w.heap.size w w2:=HB.out.trans (hb2.mono (by simp))
 replace HB2:=hide (HB2.mono hbase)
 generalize (fresh (fresh T w (9,9)) (w.alloc (.cells #[.int .i64 o.kind,.int .i64 o.a,.int .i64 o.b,.int .i64 o.c,.string o.s,.string o.t] 28)) (9,9))=T2 at *
 clear hb2 HA HB hsl hbase
 generalize w.heap.size=sb at *
 have c14:=HI.out.hw.1.cell (i:=14) rfl
 have hf:=HI.out.hw.1.frozen
 have hlen:=HI.out.bound.2.2.2.2.2.2.1
 have key:=fun (w1:World) (o:Obj) (hg:(w2.alloc o).grownBy w1 σ.vre.ownBlock)=>(HI.out.hw.1.alloc o).grown hg (fun e=>absurd (HI.out.rre.2 B e.symm) (by rw[HI.out.hw.2];decide))
 have HK:=hide key
 clear key
 go_wp2_with (at_builtin;refine wpList_append_str rfl (.tmp 43) (.tmp 45) rfl _ σ.re.length σ.re rfl (HI.out.rre.1.alloc _) _ t rfl (World.cell?_alloc_at _ _ _ _ rfl) ?_ ?_;omega;intro v1 w1 hr1 hg1 hat1;obtain ⟨g9,cap9,cur9,rfl,_⟩:=hr1.open (Nat.succ_pos _);have b1:=HK.out w1 _ hg1;have d14:=b1.cell (i:=14) rfl;have f1:=b1.frozen)
 go_ret
 obtain ⟨T',σ',i1,i2⟩:=HI.out.addRe hM hM2 t (by omega) _ _ hg1 hr1 hat1
 exact ⟨rfl,T',σ',i1,HB2.out.trans i2⟩
set_option maxRecDepth 100000 in
set_option maxHeartbeats 1600000 in
theorem owner_19 {T:Tags} {base B M M':Nat} {σ:Sig} {w:World} (h:Inv T base B M σ w) (o:OpR) (hok:o.ok) (hk:o.kind=19) (_hs:o.s.size≤M) (ht:o.t.size≤M) (hM:M<M') (hM2:M'≤1073741824):
  Calls Tryz.prog 31 #[.pointer (some ⟨B,0,none⟩),opV o] w fun e w'=>e = .returned (.bool true)∧Done base B M' w w':=by
 have z17:(o.kind==17)=false:=beq_eq_false_iff_ne.2 (by rw[hk];decide)
 have z4:(o.kind==4)=false:=beq_eq_false_iff_ne.2 (by rw[hk];decide)
 have z24:(o.kind==24)=false:=beq_eq_false_iff_ne.2 (by rw[hk];decide)
 have z25:(o.kind==25)=false:=beq_eq_false_iff_ne.2 (by rw[hk];decide)
 have z18:(o.kind==18)=false:=beq_eq_false_iff_ne.2 (by rw[hk];decide)
 have z19:(o.kind==19)=true:=beq_iff_eq.2 hk
 have hb0:Below w.heap.size w (w.alloc (.cells #[.int .i64 o.kind,.int .i64 o.a,.int .i64 o.b,.int .i64 o.c,.string o.s,.string o.t] 28)):=(Below.refl _ _).alloc (Nat.le_refl _) _
 have hA:=h.below hb0
 have hbase:=h.bsz
 have HA:=hide hA
 have HB:=hide hb0
 have HO:=hide hok
 unfold opV
 clear hA hb0 h hok hk
 go_enter Tryz.func31,Tryz.ntmps31
 go_wp2_with fail
 refine (long_any HA.out o HO.out (by omega)).mono ?_
 rintro e w2 ⟨t,rfl,hts,hb2⟩
 have hsl:w.heap.size<(w.alloc (.cells #[.int .i64 o.kind,.int .i64 o.a,.int .i64 o.b,.int .i64 o.c,.string o.s,.string o.t] 28)).heap.size:=by simp
 have e0:w2.cell? ⟨w.heap.size,0,none⟩=some (.int .i64 o.kind):=(hb2.cell hsl).trans (World.cell?_alloc_at _ _ _ _ rfl)
 have e1:w2.cell? ⟨w.heap.size,1,none⟩=some (.int .i64 o.a):=(hb2.cell hsl).trans (World.cell?_alloc_at _ _ _ _ rfl)
 have e2:w2.cell? ⟨w.heap.size,2,none⟩=some (.int .i64 o.b):=(hb2.cell hsl).trans (World.cell?_alloc_at _ _ _ _ rfl)
 have e3:w2.cell? ⟨w.heap.size,3,none⟩=some (.int .i64 o.c):=(hb2.cell hsl).trans (World.cell?_alloc_at _ _ _ _ rfl)
 have e4:w2.cell? ⟨w.heap.size,4,none⟩=some (.string o.s):=(hb2.cell hsl).trans (World.cell?_alloc_at _ _ _ _ rfl)
 have e5:w2.cell? ⟨w.heap.size,5,none⟩=some (.string o.t):=(hb2.cell hsl).trans (World.cell?_alloc_at _ _ _ _ rfl)
 have HI:=hide (HA.out.below hb2)
 have HT:fresh (fresh T w (9,9)) (w.alloc (.cells #[.int .i64 o.kind,.int .i64 o.a,.int .i64 o.b,.int .i64 o.c,.string o.s,.string o.t] 28)) (9,9) w.heap.size=(9,9):=by rw[fresh_old _ _ _ _ hsl];exact fresh_new _ _ _ _ (Nat.le_refl _)
 have HB2:Below w.heap.size w w2:=HB.out.trans (hb2.mono (by simp))
 replace HB2:=hide (HB2.mono hbase)
 generalize (fresh (fresh T w (9,9)) (w.alloc (.cells #[.int .i64 o.kind,.int .i64 o.a,.int .i64 o.b,.int .i64 o.c,.string o.s,.string o.t] 28)) (9,9))=T2 at *
 clear hb2 HA HB hsl hbase
 generalize w.heap.size=sb at *
 have c11:=HI.out.hw.1.cell (i:=14) rfl
 have hf:=HI.out.hw.1.frozen
 have HF:Done base B M' w (w2.setCell ⟨B,14,none⟩ (.slice none 0 0)):=by
  obtain ⟨i1,i2⟩:=HI.out.clear
  exact ⟨_,_,i1.more (Nat.le_of_lt hM) hM2,HB2.out.trans i2⟩
 replace HF:=hide HF
 clear HI HB2
 go_wp2
 go_ret
 exact ⟨rfl,HF.out⟩
set_option maxRecDepth 100000 in
set_option maxHeartbeats 1600000 in
theorem owner_23 {T:Tags} {base B M M':Nat} {σ:Sig} {w:World} (h:Inv T base B M σ w) (o:OpR) (hok:o.ok) (hk:o.kind=23) (_hs:o.s.size≤M) (ht:o.t.size≤M) (hM:M<M') (hM2:M'≤1073741824):
  Calls Tryz.prog 31 #[.pointer (some ⟨B,0,none⟩),opV o] w fun e w'=>e = .returned (.bool true)∧Done base B M' w w':=by
 have z17:(o.kind==17)=false:=beq_eq_false_iff_ne.2 (by rw[hk];decide)
 have z4:(o.kind==4)=false:=beq_eq_false_iff_ne.2 (by rw[hk];decide)
 have z24:(o.kind==24)=false:=beq_eq_false_iff_ne.2 (by rw[hk];decide)
 have z25:(o.kind==25)=false:=beq_eq_false_iff_ne.2 (by rw[hk];decide)
 have z18:(o.kind==18)=false:=beq_eq_false_iff_ne.2 (by rw[hk];decide)
 have z19:(o.kind==19)=false:=beq_eq_false_iff_ne.2 (by rw[hk];decide)
 have z20:(o.kind==20)=false:=beq_eq_false_iff_ne.2 (by rw[hk];decide)
 have z21:(o.kind==21)=false:=beq_eq_false_iff_ne.2 (by rw[hk];decide)
 have z22:(o.kind==22)=false:=beq_eq_false_iff_ne.2 (by rw[hk];decide)
 have z23:(o.kind==23)=true:=beq_iff_eq.2 hk
 have hb0:Below w.heap.size w (w.alloc (.cells #[.int .i64 o.kind,.int .i64 o.a,.int .i64 o.b,.int .i64 o.c,.string o.s,.string o.t] 28)):=(Below.refl _ _).alloc (Nat.le_refl _) _
 have hA:=h.below hb0
 have hbase:=h.bsz
 have HA:=hide hA
 have HB:=hide hb0
 have HO:=hide hok
 unfold opV
 clear hA hb0 h hok hk
 go_enter Tryz.func31,Tryz.ntmps31
 go_wp2_with fail
 refine (long_any HA.out o HO.out (by omega)).mono ?_
 rintro e w2 ⟨t,rfl,hts,hb2⟩
 have hsl:w.heap.size<(w.alloc (.cells #[.int .i64 o.kind,.int .i64 o.a,.int .i64 o.b,.int .i64 o.c,.string o.s,.string o.t] 28)).heap.size:=by simp
 have e0:w2.cell? ⟨w.heap.size,0,none⟩=some (.int .i64 o.kind):=(hb2.cell hsl).trans (World.cell?_alloc_at _ _ _ _ rfl)
 have e1:w2.cell? ⟨w.heap.size,1,none⟩=some (.int .i64 o.a):=(hb2.cell hsl).trans (World.cell?_alloc_at _ _ _ _ rfl)
 have e2:w2.cell? ⟨w.heap.size,2,none⟩=some (.int .i64 o.b):=(hb2.cell hsl).trans (World.cell?_alloc_at _ _ _ _ rfl)
 have e3:w2.cell? ⟨w.heap.size,3,none⟩=some (.int .i64 o.c):=(hb2.cell hsl).trans (World.cell?_alloc_at _ _ _ _ rfl)
 have e4:w2.cell? ⟨w.heap.size,4,none⟩=some (.string o.s):=(hb2.cell hsl).trans (World.cell?_alloc_at _ _ _ _ rfl)
 have e5:w2.cell? ⟨w.heap.size,5,none⟩=some (.string o.t):=(hb2.cell hsl).trans (World.cell?_alloc_at _ _ _ _ rfl)
 have HI:=hide (HA.out.below hb2)
 have HT:fresh (fresh T w (9,9)) (w.alloc (.cells #[.int .i64 o.kind,.int .i64 o.a,.int .i64 o.b,.int .i64 o.c,.string o.s,.string o.t] 28)) (9,9) w.heap.size=(9,9):=by rw[fresh_old _ _ _ _ hsl];exact fresh_new _ _ _ _ (Nat.le_refl _)
 have HB2:Below w.heap.size w w2:=HB.out.trans (hb2.mono (by simp))
 replace HB2:=hide (HB2.mono hbase)
 generalize (fresh (fresh T w (9,9)) (w.alloc (.cells #[.int .i64 o.kind,.int .i64 o.a,.int .i64 o.b,.int .i64 o.c,.string o.s,.string o.t] 28)) (9,9))=T2 at *
 clear hb2 HA HB hsl hbase
 generalize w.heap.size=sb at *
 have c17:=HI.out.hw.1.cell (i:=17) rfl
 have c18:=HI.out.hw.1.cell (i:=18) rfl
 have c19:=HI.out.hw.1.cell (i:=19) rfl
 have hf:=HI.out.hw.1.frozen
 have hne:sb≠B:=tag_ne HT HI.out.hw.2 (by simp)
 have HF:Done base B M' w (((w2.setCell ⟨B,17,none⟩ (.int .i64 o.a)).setCell ⟨B,18,none⟩ (.int .i64 o.b)).setCell ⟨B,19,none⟩ (.int .i64 o.c)):=by
  obtain ⟨i1,i2⟩:=HI.out.scal 17 (.int .i64 o.a) σ.file σ.key σ.nonce ⟨o.a,HO.out.a.1,HO.out.a.2⟩ σ.n σ.ex rfl HI.out.sizes.2.2.2.1 HI.out.sizes.2.2.2.2.1 HI.out.sizes.2.2.2.2.2
  obtain ⟨j1,j2⟩:=i1.scal 18 (.int .i64 o.b) σ.file σ.key σ.nonce ⟨o.a,HO.out.a.1,HO.out.a.2⟩ ⟨o.b,HO.out.b.1,HO.out.b.2⟩ σ.ex rfl HI.out.sizes.2.2.2.1 HI.out.sizes.2.2.2.2.1 HI.out.sizes.2.2.2.2.2
  obtain ⟨k1,k2⟩:=j1.scal 19 (.int .i64 o.c) σ.file σ.key σ.nonce ⟨o.a,HO.out.a.1,HO.out.a.2⟩ ⟨o.b,HO.out.b.1,HO.out.b.2⟩ ⟨o.c,HO.out.c.1,HO.out.c.2⟩ rfl HI.out.sizes.2.2.2.1 HI.out.sizes.2.2.2.2.1 HI.out.sizes.2.2.2.2.2
  exact ⟨_,_,k1.more (Nat.le_of_lt hM) hM2,((HB2.out.trans i2).trans j2).trans k2⟩
 replace HF:=hide HF
 clear HI HB2
 go_wp2
 go_ret
 exact ⟨rfl,HF.out⟩
set_option maxRecDepth 100000 in
set_option maxHeartbeats 1600000 in
theorem owner_other {T:Tags} {base B M:Nat} {σ:Sig} {w:World} (h:Inv T base B M σ w) (o:OpR) (hok:o.ok) (hk:o.kind ∉ [17,4,24,25,18,19,20,21,22,23]) (ht:o.t.size≤M):
  Calls Tryz.prog 31 #[.pointer (some ⟨B,0,none⟩),opV o] w fun e w'=>e = .returned (.bool false)∧(∃ T',Inv T' base B M σ w')∧Below w.heap.size w w':=by
 have z17:(o.kind==17)=false:=beq_eq_false_iff_ne.2 (fun e=>hk (by simp[e]))
 have z4:(o.kind==4)=false:=beq_eq_false_iff_ne.2 (fun e=>hk (by simp[e]))
 have z24:(o.kind==24)=false:=beq_eq_false_iff_ne.2 (fun e=>hk (by simp[e]))
 have z25:(o.kind==25)=false:=beq_eq_false_iff_ne.2 (fun e=>hk (by simp[e]))
 have z18:(o.kind==18)=false:=beq_eq_false_iff_ne.2 (fun e=>hk (by simp[e]))
 have z19:(o.kind==19)=false:=beq_eq_false_iff_ne.2 (fun e=>hk (by simp[e]))
 have z20:(o.kind==20)=false:=beq_eq_false_iff_ne.2 (fun e=>hk (by simp[e]))
 have z21:(o.kind==21)=false:=beq_eq_false_iff_ne.2 (fun e=>hk (by simp[e]))
 have z22:(o.kind==22)=false:=beq_eq_false_iff_ne.2 (fun e=>hk (by simp[e]))
 have z23:(o.kind==23)=false:=beq_eq_false_iff_ne.2 (fun e=>hk (by simp[e]))
 have hb0:Below w.heap.size w (w.alloc (.cells #[.int .i64 o.kind,.int .i64 o.a,.int .i64 o.b,.int .i64 o.c,.string o.s,.string o.t] 28)):=(Below.refl _ _).alloc (Nat.le_refl _) _
 have hA:=h.below hb0
 have HA:=hide hA
 have HB:=hide hb0
 have HO:=hide hok
 unfold opV
 clear hA hb0 h hok hk
 go_enter Tryz.func31,Tryz.ntmps31
 go_wp2_with fail
 refine (long_any HA.out o HO.out (by omega)).mono ?_
 rintro e w2 ⟨t,rfl,hts,hb2⟩
 have hsl:w.heap.size<(w.alloc (.cells #[.int .i64 o.kind,.int .i64 o.a,.int .i64 o.b,.int .i64 o.c,.string o.s,.string o.t] 28)).heap.size:=by simp
 have e0:w2.cell? ⟨w.heap.size,0,none⟩=some (.int .i64 o.kind):=(hb2.cell hsl).trans (World.cell?_alloc_at _ _ _ _ rfl)
 have e1:w2.cell? ⟨w.heap.size,1,none⟩=some (.int .i64 o.a):=(hb2.cell hsl).trans (World.cell?_alloc_at _ _ _ _ rfl)
 have e2:w2.cell? ⟨w.heap.size,2,none⟩=some (.int .i64 o.b):=(hb2.cell hsl).trans (World.cell?_alloc_at _ _ _ _ rfl)
 have e3:w2.cell? ⟨w.heap.size,3,none⟩=some (.int .i64 o.c):=(hb2.cell hsl).trans (World.cell?_alloc_at _ _ _ _ rfl)
 have e4:w2.cell? ⟨w.heap.size,4,none⟩=some (.string o.s):=(hb2.cell hsl).trans (World.cell?_alloc_at _ _ _ _ rfl)
 have e5:w2.cell? ⟨w.heap.size,5,none⟩=some (.string o.t):=(hb2.cell hsl).trans (World.cell?_alloc_at _ _ _ _ rfl)
 have HI:=hide (HA.out.below hb2)
 have HT:fresh (fresh T w (9,9)) (w.alloc (.cells #[.int .i64 o.kind,.int .i64 o.a,.int .i64 o.b,.int .i64 o.c,.string o.s,.string o.t] 28)) (9,9) w.heap.size=(9,9):=by rw[fresh_old _ _ _ _ hsl];exact fresh_new _ _ _ _ (Nat.le_refl _)
 have HB2:Below w.heap.size w w2:=HB.out.trans (hb2.mono (by simp))
 replace HB2:=hide HB2
 generalize (fresh (fresh T w (9,9)) (w.alloc (.cells #[.int .i64 o.kind,.int .i64 o.a,.int .i64 o.b,.int .i64 o.c,.string o.s,.string o.t] 28)) (9,9))=T2 at *
 clear hb2 HA HB hsl
 have HF:=hide (show (∃ T',Inv T' base B M σ w2)∧Below w.heap.size w w2 from ⟨⟨_,HI.out⟩,HB2.out⟩)
 clear HI HB2
 generalize hsb:w.heap.size=sb at *
 have HSB:=hide hsb
 clear hsb
 go_wp2
 go_ret
 refine ⟨rfl,?_⟩
 rw[HSB.out]
 exact HF.out
theorem size_set (w:World) (a:Addr) (v:Value):w.heap.size=(w.setCell a v).heap.size:=by simp[World.setCell]
theorem RowT.strs {T:Tags} {w:World} {c:Nat × Nat} {v:Value} {l:List ByteArray} (h:RowT T w c 9 1 v l.length (strV l)):Strs w v l:=by
 rcases Nat.eq_zero_or_pos l.length with h0 | h0
 ·obtain ⟨ao,cap,rfl,_⟩:=h.zero
  rw[h0]
  exact .inl ⟨List.eq_nil_of_length_eq_zero h0,_,_,rfl⟩
 ·obtain ⟨g,cap,rfl,_,_,_,_,hc⟩:=h.cells h0
  exact .inr ⟨g,0,cap,rfl,fun i x hx=>by rw[Nat.zero_add];exact hc i _ (by simp[strV,hx])⟩
set_option maxRecDepth 100000 in
set_option maxHeartbeats 1600000 in
theorem owner_20 {T:Tags} {base B M M':Nat} {σ:Sig} {w:World} (h:Inv T base B M σ w) (o:OpR) (hok:o.ok) (hk:o.kind=20) (_hs:o.s.size≤M) (ht:o.t.size≤M) (hM:M<M') (hM2:M'≤1073741824):
  Calls Tryz.prog 31 #[.pointer (some ⟨B,0,none⟩),opV o] w fun e w'=>e = .returned (.bool true)∧Done base B M' w w':=by
 have z17:(o.kind==17)=false:=beq_eq_false_iff_ne.2 (by rw[hk];decide)
 have z4:(o.kind==4)=false:=beq_eq_false_iff_ne.2 (by rw[hk];decide)
 have z24:(o.kind==24)=false:=beq_eq_false_iff_ne.2 (by rw[hk];decide)
 have z25:(o.kind==25)=false:=beq_eq_false_iff_ne.2 (by rw[hk];decide)
 have z18:(o.kind==18)=false:=beq_eq_false_iff_ne.2 (by rw[hk];decide)
 have z19:(o.kind==19)=false:=beq_eq_false_iff_ne.2 (by rw[hk];decide)
 have z20:(o.kind==20)=true:=beq_iff_eq.2 hk
 have hb0:Below w.heap.size w (w.alloc (.cells #[.int .i64 o.kind,.int .i64 o.a,.int .i64 o.b,.int .i64 o.c,.string o.s,.string o.t] 28)):=(Below.refl _ _).alloc (Nat.le_refl _) _
 have hA:=h.below hb0
 have hbase:=h.bsz
 have HA:=hide hA
 have HB:=hide hb0
 have HO:=hide hok
 unfold opV
 clear hA hb0 h hok hk
 go_enter Tryz.func31,Tryz.ntmps31
 go_wp2_with fail
 refine (long_any HA.out o HO.out (by omega)).mono ?_
 rintro e w2 ⟨t,rfl,hts,hb2⟩
 have hsl:w.heap.size<(w.alloc (.cells #[.int .i64 o.kind,.int .i64 o.a,.int .i64 o.b,.int .i64 o.c,.string o.s,.string o.t] 28)).heap.size:=by simp
 have e0:w2.cell? ⟨w.heap.size,0,none⟩=some (.int .i64 o.kind):=(hb2.cell hsl).trans (World.cell?_alloc_at _ _ _ _ rfl)
 have e1:w2.cell? ⟨w.heap.size,1,none⟩=some (.int .i64 o.a):=(hb2.cell hsl).trans (World.cell?_alloc_at _ _ _ _ rfl)
 have e2:w2.cell? ⟨w.heap.size,2,none⟩=some (.int .i64 o.b):=(hb2.cell hsl).trans (World.cell?_alloc_at _ _ _ _ rfl)
 have e3:w2.cell? ⟨w.heap.size,3,none⟩=some (.int .i64 o.c):=(hb2.cell hsl).trans (World.cell?_alloc_at _ _ _ _ rfl)
 have e4:w2.cell? ⟨w.heap.size,4,none⟩=some (.string o.s):=(hb2.cell hsl).trans (World.cell?_alloc_at _ _ _ _ rfl)
 have e5:w2.cell? ⟨w.heap.size,5,none⟩=some (.string o.t):=(hb2.cell hsl).trans (World.cell?_alloc_at _ _ _ _ rfl)
 have HI:=hide (HA.out.below hb2)
 have HT:fresh (fresh T w (9,9)) (w.alloc (.cells #[.int .i64 o.kind,.int .i64 o.a,.int .i64 o.b,.int .i64 o.c,.string o.s,.string o.t] 28)) (9,9) w.heap.size=(9,9):=by rw[fresh_old _ _ _ _ hsl];exact fresh_new _ _ _ _ (Nat.le_refl _)
 have HB2:Below w.heap.size w w2:=HB.out.trans (hb2.mono (by simp))
 replace HB2:=hide (HB2.mono hbase)
 generalize (fresh (fresh T w (9,9)) (w.alloc (.cells #[.int .i64 o.kind,.int .i64 o.a,.int .i64 o.b,.int .i64 o.c,.string o.s,.string o.t] 28)) (9,9))=T2 at *
 clear hb2 HA HB hsl hbase
 generalize w.heap.size=sb at *
 have c14:=HI.out.hw.1.cell (i:=14) rfl
 have hrl:=HI.out.bound.2.2.2.2.2.2.1
 have hll:=HI.out.bound.2.2.2.2.2.2.2.1
 have hMb:=HI.out.bound.1
 have hst:=HI.out.rre.strs
 have hBl:=HI.out.hw.1.lt
 go_wp2_with fail
 refine (copied_any σ.vre σ.re w2 hst (by omega)).mono ?_
 rintro e w3 ⟨rfl,hB3,hb3⟩
 have hI3:=HI.out.same (Nat.le_refl _) HI.out.bound.1 (Stays.of_below (31,σ.ls.length) hb3)
 have t3:=fresh_new T2 w2 (31,σ.ls.length) _ (Nat.le_refl _)
 have c143:=hI3.hw.1.cell (i:=14) rfl
 have hst3:=hI3.rre.strs
 have HB3:=hide (HB2.out.trans (hb3.mono HI.out.bsz))
 generalize fresh T2 w2 (31,σ.ls.length)=T3 at *
 generalize w2.heap.size=b3 at *
 clear c14 hst hb3 HB2 hBl e0 e1 e2 e3 e4 e5 HI
 have HI3:=hide hI3
 clear hI3
 go_wp2_with fail
 refine (copied_any σ.vre σ.re w3 hst3 (by omega)).mono ?_
 rintro e w4 ⟨rfl,hB4,hb4⟩
 have hI4:=HI3.out.same (Nat.le_refl _) HI3.out.bound.1 (Stays.of_below (32,σ.ls.length) hb4)
 have t4:=fresh_new T3 w3 (32,σ.ls.length) _ (Nat.le_refl _)
 have t34:=(fresh_old T3 w3 (32,σ.ls.length) b3 hB3.lt).trans t3
 have hB34:=hB3.below hb4 hB3.lt
 have HB4:=hide (HB3.out.trans (hb4.mono HI3.out.bsz))
 generalize fresh T3 w3 (32,σ.ls.length)=T4 at *
 generalize w3.heap.size=b4 at *
 have HL1:=hide (show Lst T4 w4 (31,σ.ls.length) (.slice (some ⟨b3,0,none⟩) σ.re.length σ.re.length) σ.re from .inr ⟨b3,rfl,hB34,t34⟩)
 have HL2:=hide (show Lst T4 w4 (32,σ.ls.length) (.slice (some ⟨b4,0,none⟩) σ.re.length σ.re.length) σ.re from .inr ⟨b4,rfl,hB4,t4⟩)
 have HSZ:=hide hI4.sizes.2.1
 have c15:=hI4.hw.1.cell (i:=15) rfl
 have f15:=hI4.hw.1.frozen
 have HI4:=hide hI4
 clear c143 hst3 hB3 hB4 hb4 t3 t4 t34 hB34 HI3 HB3 hI4
 have key:=fun (w1:World) (o:Obj) (hg:(w4.alloc o).grownBy w1 σ.vls.ownBlock)=>(HI4.out.hw.1.alloc o).grown hg (fun e=>absurd (HI4.out.rls.2 B e.symm) (by rw[HI4.out.hw.2];decide))
 have HK:=hide key
 clear key
 go_wp2_with (first | (at_builtin;refine wpList_append_one 41 42 _ 24 infoLs Tryz.underlying42 rfl (by decide) rfl (.tmp 70) (.tmp 72) rfl _ σ.ls.length _ rfl (HI4.out.rls.1.alloc _) _ (.slice (some ⟨b3,0,none⟩) σ.re.length σ.re.length) rfl rfl (World.cell?_alloc_at _ _ _ _ rfl) ?_ ?_;omega;intro v1 w5 hr1 hg1 hat1;obtain ⟨g9,cap9,cur9,rfl,_⟩:=hr1.open (Nat.succ_pos _);have b1:=HK.out w5 _ hg1;have d15:=b1.cell (i:=15) rfl;have f5:=b1.frozen;have b6:=b1.setCell_same 15 (.slice (some ⟨g9,0,none⟩) (σ.ls.length+1) cap9);have d16:=b6.cell (i:=16) rfl;obtain ⟨q1,q2,q3⟩:=append_field (f:=15) HI4.out.hw HI4.out.rls (by decide) hg1 hr1 hat1;have hlw:=HI4.out.rlw.stays q1 (by simp);have HLW:=hide hlw;have HQ2:=hide q2;clear q1 q3 hlw q2 HK;replace hr1:=hide hr1;replace hg1:=hide hg1;replace hat1:=hide hat1;have key2:=fun (w1:World) (o:Obj) (hg:((w5.setCell ⟨B,15,none⟩ (.slice (some ⟨g9,0,none⟩) (σ.ls.length+1) cap9)).alloc o).grownBy w1 σ.vlw.ownBlock)=>(HQ2.out.1.alloc o).grown hg (fun e=>absurd (HLW.out.2 B e.symm) (by rw[HQ2.out.2];decide));have HK2:=hide key2;clear key2) | (at_builtin;refine wpList_append_one 41 42 _ 24 infoLs Tryz.underlying42 rfl (by decide) rfl (.tmp 80) (.tmp 82) rfl _ σ.ls.length _ rfl (HLW.out.1.alloc _) _ (.slice (some ⟨b4,0,none⟩) σ.re.length σ.re.length) rfl rfl (World.cell?_alloc_at _ _ _ _ (size_set _ _ _)) ?_ ?_;omega;intro v2 w6 hr2 hg2 hat2;obtain ⟨g10,cap10,cur10,rfl,_⟩:=hr2.open (Nat.succ_pos _);have b7:=HK2.out w6 _ hg2;have d167:=b7.cell (i:=16) rfl;have f7:=b7.frozen))
 go_ret
 obtain ⟨T',σ',i1,i2⟩:=HI4.out.addLs hM hM2 ⟨.slice (some ⟨b3,0,none⟩) σ.re.length σ.re.length,.slice (some ⟨b4,0,none⟩) σ.re.length σ.re.length,σ.re⟩ HL1.out HL2.out (⟨by show σ.re.length≤_;omega,fun x hx=>by have:=HSZ.out x hx;omega⟩) _ _ hg1.out hr1.out hat1.out _ _ hg2 hr2 hat2
 exact ⟨rfl,T',σ',i1,HB4.out.trans i2⟩
set_option maxRecDepth 100000 in
set_option maxHeartbeats 1600000 in
theorem owner_21 {T:Tags} {base B M M':Nat} {σ:Sig} {w:World} (h:Inv T base B M σ w) (o:OpR) (hok:o.ok) (hk:o.kind=21) (_hs:o.s.size≤M) (ht:o.t.size≤M) (hM:M<M') (hM2:M'≤1073741824):
  Calls Tryz.prog 31 #[.pointer (some ⟨B,0,none⟩),opV o] w fun e w'=>e = .returned (.bool true)∧Done base B M' w w':=by
 have z17:(o.kind==17)=false:=beq_eq_false_iff_ne.2 (by rw[hk];decide)
 have z4:(o.kind==4)=false:=beq_eq_false_iff_ne.2 (by rw[hk];decide)
 have z24:(o.kind==24)=false:=beq_eq_false_iff_ne.2 (by rw[hk];decide)
 have z25:(o.kind==25)=false:=beq_eq_false_iff_ne.2 (by rw[hk];decide)
 have z18:(o.kind==18)=false:=beq_eq_false_iff_ne.2 (by rw[hk];decide)
 have z19:(o.kind==19)=false:=beq_eq_false_iff_ne.2 (by rw[hk];decide)
 have z20:(o.kind==20)=false:=beq_eq_false_iff_ne.2 (by rw[hk];decide)
 have z21:(o.kind==21)=true:=beq_iff_eq.2 hk
 have hb0:Below w.heap.size w (w.alloc (.cells #[.int .i64 o.kind,.int .i64 o.a,.int .i64 o.b,.int .i64 o.c,.string o.s,.string o.t] 28)):=(Below.refl _ _).alloc (Nat.le_refl _) _
 have hA:=h.below hb0
 have hbase:=h.bsz
 have HA:=hide hA
 have HB:=hide hb0
 have HO:=hide hok
 unfold opV
 clear hA hb0 h hok hk
 go_enter Tryz.func31,Tryz.ntmps31
 go_wp2_with fail
 refine (long_any HA.out o HO.out (by omega)).mono ?_
 rintro e w2 ⟨t,rfl,hts,hb2⟩
 have hsl:w.heap.size<(w.alloc (.cells #[.int .i64 o.kind,.int .i64 o.a,.int .i64 o.b,.int .i64 o.c,.string o.s,.string o.t] 28)).heap.size:=by simp
 have e0:w2.cell? ⟨w.heap.size,0,none⟩=some (.int .i64 o.kind):=(hb2.cell hsl).trans (World.cell?_alloc_at _ _ _ _ rfl)
 have e1:w2.cell? ⟨w.heap.size,1,none⟩=some (.int .i64 o.a):=(hb2.cell hsl).trans (World.cell?_alloc_at _ _ _ _ rfl)
 have e2:w2.cell? ⟨w.heap.size,2,none⟩=some (.int .i64 o.b):=(hb2.cell hsl).trans (World.cell?_alloc_at _ _ _ _ rfl)
 have e3:w2.cell? ⟨w.heap.size,3,none⟩=some (.int .i64 o.c):=(hb2.cell hsl).trans (World.cell?_alloc_at _ _ _ _ rfl)
 have e4:w2.cell? ⟨w.heap.size,4,none⟩=some (.string o.s):=(hb2.cell hsl).trans (World.cell?_alloc_at _ _ _ _ rfl)
 have e5:w2.cell? ⟨w.heap.size,5,none⟩=some (.string o.t):=(hb2.cell hsl).trans (World.cell?_alloc_at _ _ _ _ rfl)
 have HI:=hide (HA.out.below hb2)
 have HT:fresh (fresh T w (9,9)) (w.alloc (.cells #[.int .i64 o.kind,.int .i64 o.a,.int .i64 o.b,.int .i64 o.c,.string o.s,.string o.t] 28)) (9,9) w.heap.size=(9,9):=by rw[fresh_old _ _ _ _ hsl];exact fresh_new _ _ _ _ (Nat.le_refl _)
 have HB2:Below w.heap.size w w2:=HB.out.trans (hb2.mono (by simp))
 replace HB2:=hide (HB2.mono hbase)
 generalize (fresh (fresh T w (9,9)) (w.alloc (.cells #[.int .i64 o.kind,.int .i64 o.a,.int .i64 o.b,.int .i64 o.c,.string o.s,.string o.t] 28)) (9,9))=T2 at *
 clear hb2 HA HB hsl hbase
 generalize w.heap.size=sb at *
 have hll:=HI.out.bound.2.2.2.2.2.2.2.1
 have c15:=HI.out.hw.1.cell (i:=15) rfl
 have f15:=HI.out.hw.1.frozen
 have key:=fun (w1:World) (o:Obj) (hg:(w2.alloc o).grownBy w1 σ.vls.ownBlock)=>(HI.out.hw.1.alloc o).grown hg (fun e=>absurd (HI.out.rls.2 B e.symm) (by rw[HI.out.hw.2];decide))
 have HK:=hide key
 clear key
 go_wp2_with (first | (at_builtin;refine wpList_append_one 41 42 _ 24 infoLs Tryz.underlying42 rfl (by decide) rfl (.tmp 92) (.tmp 93) rfl _ σ.ls.length _ rfl (HI.out.rls.1.alloc _) _ (.slice none 0 0) rfl rfl (World.cell?_alloc_at _ _ _ _ rfl) ?_ ?_;omega;intro v1 w5 hr1 hg1 hat1;obtain ⟨g9,cap9,cur9,rfl,_⟩:=hr1.open (Nat.succ_pos _);have b1:=HK.out w5 _ hg1;have d15:=b1.cell (i:=15) rfl;have f5:=b1.frozen;have b6:=b1.setCell_same 15 (.slice (some ⟨g9,0,none⟩) (σ.ls.length+1) cap9);have d16:=b6.cell (i:=16) rfl;obtain ⟨q1,q2,q3⟩:=append_field (f:=15) HI.out.hw HI.out.rls (by decide) hg1 hr1 hat1;have hlw:=HI.out.rlw.stays q1 (by simp);have HLW:=hide hlw;have HQ2:=hide q2;clear q1 q3 hlw q2 HK;replace hr1:=hide hr1;replace hg1:=hide hg1;replace hat1:=hide hat1;have key2:=fun (w1:World) (o:Obj) (hg:((w5.setCell ⟨B,15,none⟩ (.slice (some ⟨g9,0,none⟩) (σ.ls.length+1) cap9)).alloc o).grownBy w1 σ.vlw.ownBlock)=>(HQ2.out.1.alloc o).grown hg (fun e=>absurd (HLW.out.2 B e.symm) (by rw[HQ2.out.2];decide));have HK2:=hide key2;clear key2) | (at_builtin;refine wpList_append_one 41 42 _ 24 infoLs Tryz.underlying42 rfl (by decide) rfl (.tmp 101) (.tmp 102) rfl _ σ.ls.length _ rfl (HLW.out.1.alloc _) _ (.slice none 0 0) rfl rfl (World.cell?_alloc_at _ _ _ _ (size_set _ _ _)) ?_ ?_;omega;intro v2 w6 hr2 hg2 hat2;obtain ⟨g10,cap10,cur10,rfl,_⟩:=hr2.open (Nat.succ_pos _);have b7:=HK2.out w6 _ hg2;have d167:=b7.cell (i:=16) rfl;have f7:=b7.frozen))
 go_ret
 obtain ⟨T',σ',i1,i2⟩:=HI.out.addLs hM hM2 ⟨.slice none 0 0,.slice none 0 0,[]⟩ (.inl ⟨rfl,rfl⟩) (.inl ⟨rfl,rfl⟩) (⟨Nat.zero_le _,by simp⟩) _ _ hg1.out hr1.out hat1.out _ _ hg2 hr2 hat2
 exact ⟨rfl,T',σ',i1,HB2.out.trans i2⟩
theorem Lst.shape {T:Tags} {w:World} {c:Nat × Nat} {v:Value} {l:List ByteArray} (h:Lst T w c v l):∃ ao,v = .slice ao l.length l.length:=by
 rcases h with ⟨rfl,rfl⟩ | ⟨g,rfl,_⟩
 ·exact ⟨_,rfl⟩
 ·exact ⟨_,rfl⟩
theorem Lst.open {T:Tags} {w:World} {c:Nat × Nat} {v:Value} {l:List ByteArray} (h:Lst T w c v l) (hl:0<l.length):∃ g,v = .slice (some ⟨g,0,none⟩) l.length l.length∧At T w c g 9 (strV l):=by
 rcases h with ⟨rfl,rfl⟩ | h
 ·simp at hl
 ·exact h
set_option maxRecDepth 100000 in
set_option maxHeartbeats 1600000 in
theorem cell_any {T:Tags} {base B M:Nat} {σ:Sig} {w:World} (h:Inv T base B M σ w) (o:OpR) (hok:o.ok) (t:ByteArray) (hts:t.size≤512*M+65536):
  Calls Tryz.prog 67 #[.pointer (some ⟨B,0,none⟩),opV o,.string t] w fun e w'=>e = .returned (.tuple #[])∧Done base B M w w':=by
 have hb0:Below w.heap.size w (w.alloc (.cells #[.int .i64 o.kind,.int .i64 o.a,.int .i64 o.b,.int .i64 o.c,.string o.s,.string o.t] 28)):=(Below.refl _ _).alloc (Nat.le_refl _) _
 have hA:=h.below hb0
 have hbase:=h.bsz
 unfold opV
 by_cases h0:σ.ls.length=0
 ·obtain ⟨ao,cap,hv,hcap⟩:=hA.rls.zero
  have c15:=hA.hw.1.cell (i:=15) rfl
  rw[hv,h0] at c15
  have HF:=hide (show Done base B M w (w.alloc (.cells #[.int .i64 o.kind,.int .i64 o.a,.int .i64 o.b,.int .i64 o.c,.string o.s,.string o.t] 28)) from ⟨_,_,hA,hb0.mono hbase⟩)
  clear hA hb0 h hv h0 hok
  go_enter Tryz.func67,Tryz.ntmps67
  go_wp2
  refine bodyPost_ret (results_none rfl _ _ _) rfl ?_
  exact ⟨rfl,HF.out⟩
 ·have h0':0<σ.ls.length:=by omega
  have hpk:=pickN_lt o.a σ.ls.length h0'
  obtain ⟨p,hp⟩:∃ p,σ.ls[pickN o.a σ.ls.length]? = some p:=⟨_,List.getElem?_eq_getElem hpk⟩
  obtain ⟨g1,cp1,hv1,hc1,hm1,_,_,hcell1⟩:=hA.rls.cells h0'
  obtain ⟨g2,cp2,hv2,hc2,hm2,_,_,hcell2⟩:=hA.rlw.cells h0'
  have d1:=hcell1 (pickN o.a σ.ls.length) p.v (by simp[hp])
  have d2:=hcell2 (pickN o.a σ.ls.length) p.v2 (by simp[hp])
  have c15:=hA.hw.1.cell (i:=15) rfl
  have c16:=hA.hw.1.cell (i:=16) rfl
  rw[hv1] at c15
  rw[hv2] at c16
  obtain ⟨l1,l2⟩:=hA.ls _ p hp
  have hpl:=(hA.sizes.2.2.1 p (List.mem_of_getElem? hp)).1
  have hlen:=hA.bound.2.2.2.2.2.2.2.1
  have hMb:=hA.bound.1
  have hoa:=hok.a
  have hob:=hok.b
  have hpick:=fun w=>pick_any o.a σ.ls.length w hoa.1 hoa.2 h0' (by omega)
  have jn:(0:Int)<(σ.ls.length:Int):=by omega
  unfold maxLen at hm1 hm2
  by_cases hl0:p.l.length=0
  ·obtain ⟨ao,hpv⟩:=l1.shape
   rw[hpv,hl0] at d1
   have HF:=hide (show ∀ m,Done base B M w ((w.alloc (.cells #[.int .i64 o.kind,.int .i64 o.a,.int .i64 o.b,.int .i64 o.c,.string o.s,.string o.t] 28)).drewN m) from fun m=>Done.drewN ⟨_,_,hA,hb0.mono hbase⟩ m)
   have HPK:=hide hpick
   clear hA hb0 h h0 hpick hp hcell1 hcell2 hv1 hv2 d2 c16 l1 l2 hpv hl0 hpl hok
   generalize σ.ls.length=n at *
   generalize pickN o.a n=pk at *
   go_enter Tryz.func67,Tryz.ntmps67
   go_wp2
   refine wp_letterW (fun w'=>(∀ m,Done base B M w (w'.drewN m))∧w'.cell? ⟨B,15,none⟩=some (.slice (some ⟨g1,0,none⟩) n cp1)∧w'.cell? ⟨w.heap.size,1,none⟩=some (.int .i64 o.a)∧w'.cell? ⟨g1,pk,none⟩=some (.slice ao 0 0)) ⟨HF.out,c15,(World.cell?_alloc_at _ _ _ _ rfl).trans rfl,d1⟩ ?_
   clear c15 d1 HF
   rintro wq ⟨HF,c15,e1,d1⟩
   replace HF:=hide HF
   go_quiet ((go_at_call 48;exact Calls.quiet_of_same (HPK.out _)))
   go_wp2
   refine bodyPost_ret (results_none rfl _ _ _) rfl ?_
   exact ⟨rfl,HF.out _⟩
  ·have hl0':0<p.l.length:=by omega
   obtain ⟨q1,hq1,a1⟩:=l1.open hl0'
   obtain ⟨q2,hq2,a2⟩:=l2.open hl0'
   rw[hq1] at d1
   rw[hq2] at d2
   have hpi:=pickN_lt o.b p.l.length hl0'
   have hpick2:=fun w=>pick_any o.b p.l.length w hob.1 hob.2 hl0' (by omega)
   obtain ⟨y,hy⟩:∃ y,p.l[pickN o.b p.l.length]? = some y:=⟨_,List.getElem?_eq_getElem hpi⟩
   have r1:=a1.1.cell (i:=pickN o.b p.l.length) (v:=.string y) (by simp[strV,hy])
   have r2:=a2.1.cell (i:=pickN o.b p.l.length) (v:=.string y) (by simp[strV,hy])
   have f1:=a1.1.frozen (pickN o.b p.l.length)
   have f2:=a2.1.frozen (pickN o.b p.l.length)
   have n12:q2≠q1:=tag_ne a2.2 a1.2 (by simp)
   have tg2:(fresh T w (9,9)) g2=(2,16):=hA.rlw.2 g2 (by rw[hv2];rfl)
   have n1g:g2≠q1:=tag_ne tg2 a1.2 (by simp)
   have n1B:B≠q1:=tag_ne hA.hw.2 a1.2 (by simp)
   have HF:=hide (show ∀ m m',Done base B M w ((((w.alloc (.cells #[.int .i64 o.kind,.int .i64 o.a,.int .i64 o.b,.int .i64 o.c,.string o.s,.string o.t] 28)).drewN m).drewN m').setCell ⟨q1,pickN o.b p.l.length,none⟩ (.string t) |>.setCell ⟨q2,pickN o.b p.l.length,none⟩ (.string t)) from by
    intro m m'
    obtain ⟨T',σ',i1,i2⟩:=((hA.drewN m).drewN m').setLs hp (pickN o.b p.l.length) t hts hq1 hq2
    exact ⟨T',σ',i1,(below_drewN (below_drewN (hb0.mono hbase) m) m').trans i2⟩)
   have HPK:=hide hpick
   have HPK2:=hide hpick2
   have kp:(pickN o.a σ.ls.length:Int)<(σ.ls.length:Int):=by omega
   have ki:(pickN o.b p.l.length:Int)<(p.l.length:Int):=by omega
   have kl:(0:Int)<(p.l.length:Int):=by omega
   have kz:((p.l.length:Int)==0)=false:=beq_eq_false_iff_ne.2 (by omega)
   clear hA hb0 h h0 hpick hp hcell1 hcell2 hv1 hv2 l1 l2 hok hpick2 hy a1 a2 hq1 hq2 tg2 hl0
   generalize σ.ls.length=n at *
   generalize pickN o.a n=pk at *
   generalize p.l.length=ln at *
   generalize pickN o.b ln=pi at *
   go_enter Tryz.func67,Tryz.ntmps67
   go_wp2
   refine wp_letterW (fun w'=>(∀ m m',Done base B M w (((w'.drewN m).drewN m').setCell ⟨q1,pi,none⟩ (.string t) |>.setCell ⟨q2,pi,none⟩ (.string t)))∧w'.cell? ⟨B,15,none⟩=some (.slice (some ⟨g1,0,none⟩) n cp1)∧w'.cell? ⟨B,16,none⟩=some (.slice (some ⟨g2,0,none⟩) n cp2)∧w'.cell? ⟨w.heap.size,1,none⟩=some (.int .i64 o.a)∧w'.cell? ⟨w.heap.size,2,none⟩=some (.int .i64 o.b)∧w'.cell? ⟨g1,pk,none⟩=some (.slice (some ⟨q1,0,none⟩) ln ln)∧w'.cell? ⟨g2,pk,none⟩=some (.slice (some ⟨q2,0,none⟩) ln ln)∧w'.cell? ⟨q1,pi,none⟩=some (.string y)∧w'.cell? ⟨q2,pi,none⟩=some (.string y)∧w'.frozen? ⟨q1,pi,none⟩=false∧w'.frozen? ⟨q2,pi,none⟩=false) ⟨HF.out,c15,c16,(World.cell?_alloc_at _ _ _ _ rfl).trans rfl,(World.cell?_alloc_at _ _ _ _ rfl).trans rfl,d1,d2,r1,r2,f1,f2⟩ ?_
   clear c15 c16 d1 d2 r1 r2 f1 f2 HF
   rintro wq ⟨HF,c15,c16,e1,e2,d1,d2,r1,r2,f1,f2⟩
   replace HF:=hide HF
   go_quiet ((go_at_call 48;exact Calls.quiet_of_same (HPK.out _)))
   go_wp2
   refine wp_letterW (fun w'=>(∀ m',Done base B M w ((w'.drewN m').setCell ⟨q1,pi,none⟩ (.string t) |>.setCell ⟨q2,pi,none⟩ (.string t)))∧w'.cell? ⟨B,15,none⟩=some (.slice (some ⟨g1,0,none⟩) n cp1)∧w'.cell? ⟨B,16,none⟩=some (.slice (some ⟨g2,0,none⟩) n cp2)∧w'.cell? ⟨w.heap.size,2,none⟩=some (.int .i64 o.b)∧w'.cell? ⟨g1,pk,none⟩=some (.slice (some ⟨q1,0,none⟩) ln ln)∧w'.cell? ⟨g2,pk,none⟩=some (.slice (some ⟨q2,0,none⟩) ln ln)∧w'.cell? ⟨q1,pi,none⟩=some (.string y)∧w'.cell? ⟨q2,pi,none⟩=some (.string y)∧w'.frozen? ⟨q1,pi,none⟩=false∧w'.frozen? ⟨q2,pi,none⟩=false) ⟨HF.out _,c15,c16,e2,d1,d2,r1,r2,f1,f2⟩ ?_
   clear c15 c16 e1 e2 d1 d2 r1 r2 f1 f2 HF nq wq
   rintro wq ⟨HF,c15,c16,e2,d1,d2,r1,r2,f1,f2⟩
   have s16:(wq.setCell ⟨q1,pi,none⟩ (.string t)).cell? ⟨B,16,none⟩=some (.slice (some ⟨g2,0,none⟩) n cp2):=by rw[World.cell?_of_block (Below.heap_setCell wq _ _ B n1B)];exact c16
   have sd2:(wq.setCell ⟨q1,pi,none⟩ (.string t)).cell? ⟨g2,pk,none⟩=some (.slice (some ⟨q2,0,none⟩) ln ln):=by rw[World.cell?_of_block (Below.heap_setCell wq _ _ g2 n1g)];exact d2
   have sr2:(wq.setCell ⟨q1,pi,none⟩ (.string t)).cell? ⟨q2,pi,none⟩=some (.string y):=by rw[World.cell?_of_block (Below.heap_setCell wq _ _ q2 n12)];exact r2
   have sf2:(wq.setCell ⟨q1,pi,none⟩ (.string t)).frozen? ⟨q2,pi,none⟩=false:=by rw[←f2];unfold World.frozen?;rw[show (wq.setCell ⟨q1,pi,none⟩ (.string t)).heap[q2]? = wq.heap[q2]? from Below.heap_setCell wq _ _ q2 n12]
   replace HF:=hide HF
   go_quiet ((go_at_call 48;exact Calls.quiet_of_same (HPK2.out _)))
   go_wp2
   go_end0
   exact ⟨rfl,HF.out _⟩
set_option maxRecDepth 100000 in
set_option maxHeartbeats 1600000 in
theorem owner_22 {T:Tags} {base B M M':Nat} {σ:Sig} {w:World} (h:Inv T base B M σ w) (o:OpR) (hok:o.ok) (hk:o.kind=22) (_hs:o.s.size≤M) (ht:o.t.size≤M) (hM:M<M') (hM2:M'≤1073741824):
  Calls Tryz.prog 31 #[.pointer (some ⟨B,0,none⟩),opV o] w fun e w'=>e = .returned (.bool true)∧Done base B M' w w':=by
 have z17:(o.kind==17)=false:=beq_eq_false_iff_ne.2 (by rw[hk];decide)
 have z4:(o.kind==4)=false:=beq_eq_false_iff_ne.2 (by rw[hk];decide)
 have z24:(o.kind==24)=false:=beq_eq_false_iff_ne.2 (by rw[hk];decide)
 have z25:(o.kind==25)=false:=beq_eq_false_iff_ne.2 (by rw[hk];decide)
 have z18:(o.kind==18)=false:=beq_eq_false_iff_ne.2 (by rw[hk];decide)
 have z19:(o.kind==19)=false:=beq_eq_false_iff_ne.2 (by rw[hk];decide)
 have z20:(o.kind==20)=false:=beq_eq_false_iff_ne.2 (by rw[hk];decide)
 have z21:(o.kind==21)=false:=beq_eq_false_iff_ne.2 (by rw[hk];decide)
 have z22:(o.kind==22)=true:=beq_iff_eq.2 hk
 have hb0:Below w.heap.size w (w.alloc (.cells #[.int .i64 o.kind,.int .i64 o.a,.int .i64 o.b,.int .i64 o.c,.string o.s,.string o.t] 28)):=(Below.refl _ _).alloc (Nat.le_refl _) _
 have hA:=h.below hb0
 have hbase:=h.bsz
 have HA:=hide hA
 have HB:=hide hb0
 have HO:=hide hok
 unfold opV
 clear hA hb0 h hok hk
 go_enter Tryz.func31,Tryz.ntmps31
 go_wp2_with fail
 refine (long_any HA.out o HO.out (by omega)).mono ?_
 rintro e w2 ⟨t,rfl,hts,hb2⟩
 have hsl:w.heap.size<(w.alloc (.cells #[.int .i64 o.kind,.int .i64 o.a,.int .i64 o.b,.int .i64 o.c,.string o.s,.string o.t] 28)).heap.size:=by simp
 have e0:w2.cell? ⟨w.heap.size,0,none⟩=some (.int .i64 o.kind):=(hb2.cell hsl).trans (World.cell?_alloc_at _ _ _ _ rfl)
 have e1:w2.cell? ⟨w.heap.size,1,none⟩=some (.int .i64 o.a):=(hb2.cell hsl).trans (World.cell?_alloc_at _ _ _ _ rfl)
 have e2:w2.cell? ⟨w.heap.size,2,none⟩=some (.int .i64 o.b):=(hb2.cell hsl).trans (World.cell?_alloc_at _ _ _ _ rfl)
 have e3:w2.cell? ⟨w.heap.size,3,none⟩=some (.int .i64 o.c):=(hb2.cell hsl).trans (World.cell?_alloc_at _ _ _ _ rfl)
 have e4:w2.cell? ⟨w.heap.size,4,none⟩=some (.string o.s):=(hb2.cell hsl).trans (World.cell?_alloc_at _ _ _ _ rfl)
 have e5:w2.cell? ⟨w.heap.size,5,none⟩=some (.string o.t):=(hb2.cell hsl).trans (World.cell?_alloc_at _ _ _ _ rfl)
 have HI:=hide (HA.out.below hb2)
 have HT:fresh (fresh T w (9,9)) (w.alloc (.cells #[.int .i64 o.kind,.int .i64 o.a,.int .i64 o.b,.int .i64 o.c,.string o.s,.string o.t] 28)) (9,9) w.heap.size=(9,9):=by rw[fresh_old _ _ _ _ hsl];exact fresh_new _ _ _ _ (Nat.le_refl _)
 have HB2:Below w.heap.size w w2:=HB.out.trans (hb2.mono (by simp))
 replace HB2:=hide (HB2.mono hbase)
 generalize (fresh (fresh T w (9,9)) (w.alloc (.cells #[.int .i64 o.kind,.int .i64 o.a,.int .i64 o.b,.int .i64 o.c,.string o.s,.string o.t] 28)) (9,9))=T2 at *
 clear hb2 HA HB hsl hbase
 generalize w.heap.size=sb at *
 go_wp2_with fail
 refine (cell_any HI.out o HO.out t hts).mono ?_
 rintro e w3 ⟨rfl,T3,σ3,hI3,hb3⟩
 have HF:=hide (show Done base B M' w w3 from ⟨T3,σ3,hI3.more (Nat.le_of_lt hM) hM2,HB2.out.trans hb3⟩)
 clear hI3 hb3 HI HB2
 go_wp2
 go_ret
 exact ⟨rfl,HF.out⟩
theorem owner_mine {T:Tags} {base B M M':Nat} {σ:Sig} {w:World} (h:Inv T base B M σ w) (o:OpR) (hok:o.ok) (hk:o.kind ∈ [17,4,24,25,18,19,20,21,22,23]) (hM:M+o.s.size+o.t.size<M') (hM2:M'≤1073741824):
  Calls Tryz.prog 31 #[.pointer (some ⟨B,0,none⟩),opV o] w fun e w'=>e = .returned (.bool true)∧Done base B M' w w':=by
 have h1:=h.more (M':=M+o.s.size+o.t.size) (by omega) (by omega)
 simp only[List.mem_cons,List.not_mem_nil,or_false] at hk
 rcases hk with hk | hk | hk | hk | hk | hk | hk | hk | hk | hk
 ·exact owner_17 h1 o hok hk (by omega) (by omega) hM hM2
 ·exact owner_4 h1 o hok hk (by omega) (by omega) hM hM2
 ·exact owner_24 h1 o hok hk (by omega) (by omega) hM hM2
 ·exact owner_25 h1 o hok hk (by omega) (by omega) hM hM2
 ·exact owner_18 h1 o hok hk (by omega) (by omega) hM hM2
 ·exact owner_19 h1 o hok hk (by omega) (by omega) hM hM2
 ·exact owner_20 h1 o hok hk (by omega) (by omega) hM hM2
 ·exact owner_21 h1 o hok hk (by omega) (by omega) hM hM2
 ·exact owner_22 h1 o hok hk (by omega) (by omega) hM hM2
 ·exact owner_23 h1 o hok hk (by omega) (by omega) hM hM2
theorem brought_any {T:Tags} {base B M M':Nat} {σ:Sig} {w:World} (h:Inv T base B M σ w) (o:OpR) (hok:o.ok) (hk:o.kind=1∨o.kind=2∨o.kind=3∨o.kind=8∨o.kind=9) (hs:o.s.size≤M) (hM:M<M') (hM2:M'≤1073741824):
  Calls Tryz.prog 32 #[.pointer (some ⟨B,0,none⟩),opV o] w fun e w'=>e = .returned (.bool true)∧Done base B M' w w':=by
 rcases hk with hk | hk | hk | hk | hk
 ·exact brought_1 h o hk hs hM hM2
 ·exact brought_2 h o hk hs hM hM2
 ·exact brought_3 h o hk hs hM hM2
 ·exact brought_8 h o hok hk hM hM2
 ·exact brought_9 h o hok hk hM hM2
set_option maxRecDepth 100000 in
set_option maxHeartbeats 800000 in
theorem drive_mine {base B:Nat} (o:OpR) (hok:o.ok) (hk:o.kind ∈ [17,4,24,25,18,19,20,21,22,23]):Step 12 base B o:=by
 intro T M M' σ w h hM hM2
 have hS:Std base B M σ w (w.alloc (.cells #[.int .i64 o.kind,.int .i64 o.a,.int .i64 o.b,.int .i64 o.c,.string o.s,.string o.t] 28)):=Std.alloc ⟨⟨T,h⟩,Below.refl _ _⟩ _
 have HS:=hide hS
 have HK:=hide hk
 clear hS h hk
 unfold opV
 go_enter Tryz.func12,Tryz.ntmps12
 go_wp2_with fail
 obtain ⟨⟨T9,hI9⟩,hB9⟩:=HS.out
 refine (owner_mine hI9 o hok HK.out hM hM2).mono ?_
 rintro e w5 ⟨rfl,hd⟩
 have HD:=hide (Done.from hB9 hd)
 clear hd hI9 hB9 HS
 go_wp2
 go_ret
 exact ⟨rfl,HD.out⟩
set_option maxRecDepth 100000 in
set_option maxHeartbeats 800000 in
theorem drive_1 {base B:Nat} (o:OpR) (hok:o.ok) (hk:o.kind=1):Step 12 base B o:=by
 intro T M M' σ w h hM hM2
 have z1:(o.kind==1)=true:=beq_iff_eq.2 hk
 have hn:o.kind ∉ [17,4,24,25,18,19,20,21,22,23]:=by rw[hk];decide
 have hlt:w.heap.size<(w.alloc (.cells #[.int .i64 o.kind,.int .i64 o.a,.int .i64 o.b,.int .i64 o.c,.string o.s,.string o.t] 28)).heap.size:=by simp
 have hbx:Blk (w.alloc (.cells #[.int .i64 o.kind,.int .i64 o.a,.int .i64 o.b,.int .i64 o.c,.string o.s,.string o.t] 28)) w.heap.size 28 o.cells:=Blk.new rfl rfl
 have hS:Std base B (M+o.s.size+o.t.size) σ w (w.alloc (.cells #[.int .i64 o.kind,.int .i64 o.a,.int .i64 o.b,.int .i64 o.c,.string o.s,.string o.t] 28)):=(Std.alloc ⟨⟨T,h⟩,Below.refl _ _⟩ _).more (by omega) (by omega)
 have HS:=hide hS
 have HK:=hide hk
 have HN:=hide hn
 have HX:=hide hbx
 clear hS h hk hn hbx
 unfold opV
 go_enter Tryz.func12,Tryz.ntmps12
 go_wp2_with fail
 obtain ⟨⟨T9,hI9⟩,hB9⟩:=HS.out
 refine (owner_other hI9 o hok HN.out (by omega)).mono ?_
 rintro e w2 ⟨rfl,⟨T2,hI2⟩,hb2⟩
 have hx2:=HX.out.below hb2 hlt
 have e0:=hx2.cell (i:=0) (v:=.int .i64 o.kind) rfl
 have e1:=hx2.cell (i:=1) (v:=.int .i64 o.a) rfl
 have e2:=hx2.cell (i:=2) (v:=.int .i64 o.b) rfl
 have e3:=hx2.cell (i:=3) (v:=.int .i64 o.c) rfl
 have e4:=hx2.cell (i:=4) (v:=.string o.s) rfl
 have e5:=hx2.cell (i:=5) (v:=.string o.t) rfl
 have HI2:=hide hI2
 have HB2:=hide (hB9.trans (hb2.mono hI9.bsz))
 clear hI2 hb2 hI9 hB9 HS HX hx2
 generalize w.heap.size=sb at *
 go_wp2_with fail
 refine (brought_any HI2.out o hok (by have:=HK.out;omega) (by omega) hM hM2).mono ?_
 rintro e w5 ⟨rfl,hd⟩
 have HD:=hide (Done.from HB2.out hd)
 clear hd HI2 HB2 e0 e1 e2 e3 e4 e5
 go_wp2
 go_ret
 exact ⟨rfl,HD.out⟩
set_option maxRecDepth 100000 in
set_option maxHeartbeats 800000 in
theorem drive_2 {base B:Nat} (o:OpR) (hok:o.ok) (hk:o.kind=2):Step 12 base B o:=by
 intro T M M' σ w h hM hM2
 have z1:(o.kind==1)=false:=beq_eq_false_iff_ne.2 (by rw[hk];decide)
 have z2:(o.kind==2)=true:=beq_iff_eq.2 hk
 have hn:o.kind ∉ [17,4,24,25,18,19,20,21,22,23]:=by rw[hk];decide
 have hlt:w.heap.size<(w.alloc (.cells #[.int .i64 o.kind,.int .i64 o.a,.int .i64 o.b,.int .i64 o.c,.string o.s,.string o.t] 28)).heap.size:=by simp
 have hbx:Blk (w.alloc (.cells #[.int .i64 o.kind,.int .i64 o.a,.int .i64 o.b,.int .i64 o.c,.string o.s,.string o.t] 28)) w.heap.size 28 o.cells:=Blk.new rfl rfl
 have hS:Std base B (M+o.s.size+o.t.size) σ w (w.alloc (.cells #[.int .i64 o.kind,.int .i64 o.a,.int .i64 o.b,.int .i64 o.c,.string o.s,.string o.t] 28)):=(Std.alloc ⟨⟨T,h⟩,Below.refl _ _⟩ _).more (by omega) (by omega)
 have HS:=hide hS
 have HK:=hide hk
 have HN:=hide hn
 have HX:=hide hbx
 clear hS h hk hn hbx
 unfold opV
 go_enter Tryz.func12,Tryz.ntmps12
 go_wp2_with fail
 obtain ⟨⟨T9,hI9⟩,hB9⟩:=HS.out
 refine (owner_other hI9 o hok HN.out (by omega)).mono ?_
 rintro e w2 ⟨rfl,⟨T2,hI2⟩,hb2⟩
 have hx2:=HX.out.below hb2 hlt
 have e0:=hx2.cell (i:=0) (v:=.int .i64 o.kind) rfl
 have e1:=hx2.cell (i:=1) (v:=.int .i64 o.a) rfl
 have e2:=hx2.cell (i:=2) (v:=.int .i64 o.b) rfl
 have e3:=hx2.cell (i:=3) (v:=.int .i64 o.c) rfl
 have e4:=hx2.cell (i:=4) (v:=.string o.s) rfl
 have e5:=hx2.cell (i:=5) (v:=.string o.t) rfl
 have HI2:=hide hI2
 have HB2:=hide (hB9.trans (hb2.mono hI9.bsz))
 clear hI2 hb2 hI9 hB9 HS HX hx2
 generalize w.heap.size=sb at *
 go_wp2_with fail
 refine (brought_any HI2.out o hok (by have:=HK.out;omega) (by omega) hM hM2).mono ?_
 rintro e w5 ⟨rfl,hd⟩
 have HD:=hide (Done.from HB2.out hd)
 clear hd HI2 HB2 e0 e1 e2 e3 e4 e5
 go_wp2
 go_ret
 exact ⟨rfl,HD.out⟩
set_option maxRecDepth 100000 in
set_option maxHeartbeats 800000 in
theorem drive_3 {base B:Nat} (o:OpR) (hok:o.ok) (hk:o.kind=3):Step 12 base B o:=by
 intro T M M' σ w h hM hM2
 have z1:(o.kind==1)=false:=beq_eq_false_iff_ne.2 (by rw[hk];decide)
 have z2:(o.kind==2)=false:=beq_eq_false_iff_ne.2 (by rw[hk];decide)
 have z3:(o.kind==3)=true:=beq_iff_eq.2 hk
 have hn:o.kind ∉ [17,4,24,25,18,19,20,21,22,23]:=by rw[hk];decide
 have hlt:w.heap.size<(w.alloc (.cells #[.int .i64 o.kind,.int .i64 o.a,.int .i64 o.b,.int .i64 o.c,.string o.s,.string o.t] 28)).heap.size:=by simp
 have hbx:Blk (w.alloc (.cells #[.int .i64 o.kind,.int .i64 o.a,.int .i64 o.b,.int .i64 o.c,.string o.s,.string o.t] 28)) w.heap.size 28 o.cells:=Blk.new rfl rfl
 have hS:Std base B (M+o.s.size+o.t.size) σ w (w.alloc (.cells #[.int .i64 o.kind,.int .i64 o.a,.int .i64 o.b,.int .i64 o.c,.string o.s,.string o.t] 28)):=(Std.alloc ⟨⟨T,h⟩,Below.refl _ _⟩ _).more (by omega) (by omega)
 have HS:=hide hS
 have HK:=hide hk
 have HN:=hide hn
 have HX:=hide hbx
 clear hS h hk hn hbx
 unfold opV
 go_enter Tryz.func12,Tryz.ntmps12
 go_wp2_with fail
 obtain ⟨⟨T9,hI9⟩,hB9⟩:=HS.out
 refine (owner_other hI9 o hok HN.out (by omega)).mono ?_
 rintro e w2 ⟨rfl,⟨T2,hI2⟩,hb2⟩
 have hx2:=HX.out.below hb2 hlt
 have e0:=hx2.cell (i:=0) (v:=.int .i64 o.kind) rfl
 have e1:=hx2.cell (i:=1) (v:=.int .i64 o.a) rfl
 have e2:=hx2.cell (i:=2) (v:=.int .i64 o.b) rfl
 have e3:=hx2.cell (i:=3) (v:=.int .i64 o.c) rfl
 have e4:=hx2.cell (i:=4) (v:=.string o.s) rfl
 have e5:=hx2.cell (i:=5) (v:=.string o.t) rfl
 have HI2:=hide hI2
 have HB2:=hide (hB9.trans (hb2.mono hI9.bsz))
 clear hI2 hb2 hI9 hB9 HS HX hx2
 generalize w.heap.size=sb at *
 go_wp2_with fail
 refine (brought_any HI2.out o hok (by have:=HK.out;omega) (by omega) hM hM2).mono ?_
 rintro e w5 ⟨rfl,hd⟩
 have HD:=hide (Done.from HB2.out hd)
 clear hd HI2 HB2 e0 e1 e2 e3 e4 e5
 go_wp2
 go_ret
 exact ⟨rfl,HD.out⟩
set_option maxRecDepth 100000 in
set_option maxHeartbeats 800000 in
theorem drive_8 {base B:Nat} (o:OpR) (hok:o.ok) (hk:o.kind=8):Step 12 base B o:=by
 intro T M M' σ w h hM hM2
 have z1:(o.kind==1)=false:=beq_eq_false_iff_ne.2 (by rw[hk];decide)
 have z2:(o.kind==2)=false:=beq_eq_false_iff_ne.2 (by rw[hk];decide)
 have z3:(o.kind==3)=false:=beq_eq_false_iff_ne.2 (by rw[hk];decide)
 have z8:(o.kind==8)=true:=beq_iff_eq.2 hk
 have hn:o.kind ∉ [17,4,24,25,18,19,20,21,22,23]:=by rw[hk];decide
 have hlt:w.heap.size<(w.alloc (.cells #[.int .i64 o.kind,.int .i64 o.a,.int .i64 o.b,.int .i64 o.c,.string o.s,.string o.t] 28)).heap.size:=by simp
 have hbx:Blk (w.alloc (.cells #[.int .i64 o.kind,.int .i64 o.a,.int .i64 o.b,.int .i64 o.c,.string o.s,.string o.t] 28)) w.heap.size 28 o.cells:=Blk.new rfl rfl
 have hS:Std base B (M+o.s.size+o.t.size) σ w (w.alloc (.cells #[.int .i64 o.kind,.int .i64 o.a,.int .i64 o.b,.int .i64 o.c,.string o.s,.string o.t] 28)):=(Std.alloc ⟨⟨T,h⟩,Below.refl _ _⟩ _).more (by omega) (by omega)
 have HS:=hide hS
 have HK:=hide hk
 have HN:=hide hn
 have HX:=hide hbx
 clear hS h hk hn hbx
 unfold opV
 go_enter Tryz.func12,Tryz.ntmps12
 go_wp2_with fail
 obtain ⟨⟨T9,hI9⟩,hB9⟩:=HS.out
 refine (owner_other hI9 o hok HN.out (by omega)).mono ?_
 rintro e w2 ⟨rfl,⟨T2,hI2⟩,hb2⟩
 have hx2:=HX.out.below hb2 hlt
 have e0:=hx2.cell (i:=0) (v:=.int .i64 o.kind) rfl
 have e1:=hx2.cell (i:=1) (v:=.int .i64 o.a) rfl
 have e2:=hx2.cell (i:=2) (v:=.int .i64 o.b) rfl
 have e3:=hx2.cell (i:=3) (v:=.int .i64 o.c) rfl
 have e4:=hx2.cell (i:=4) (v:=.string o.s) rfl
 have e5:=hx2.cell (i:=5) (v:=.string o.t) rfl
 have HI2:=hide hI2
 have HB2:=hide (hB9.trans (hb2.mono hI9.bsz))
 clear hI2 hb2 hI9 hB9 HS HX hx2
 generalize w.heap.size=sb at *
 go_wp2_with fail
 refine (brought_any HI2.out o hok (by have:=HK.out;omega) (by omega) hM hM2).mono ?_
 rintro e w5 ⟨rfl,hd⟩
 have HD:=hide (Done.from HB2.out hd)
 clear hd HI2 HB2 e0 e1 e2 e3 e4 e5
 go_wp2
 go_ret
 exact ⟨rfl,HD.out⟩
set_option maxRecDepth 100000 in
set_option maxHeartbeats 800000 in
theorem drive_9 {base B:Nat} (o:OpR) (hok:o.ok) (hk:o.kind=9):Step 12 base B o:=by
 intro T M M' σ w h hM hM2
 have z1:(o.kind==1)=false:=beq_eq_false_iff_ne.2 (by rw[hk];decide)
 have z2:(o.kind==2)=false:=beq_eq_false_iff_ne.2 (by rw[hk];decide)
 have z3:(o.kind==3)=false:=beq_eq_false_iff_ne.2 (by rw[hk];decide)
 have z8:(o.kind==8)=false:=beq_eq_false_iff_ne.2 (by rw[hk];decide)
 have z9:(o.kind==9)=true:=beq_iff_eq.2 hk
 have hn:o.kind ∉ [17,4,24,25,18,19,20,21,22,23]:=by rw[hk];decide
 have hlt:w.heap.size<(w.alloc (.cells #[.int .i64 o.kind,.int .i64 o.a,.int .i64 o.b,.int .i64 o.c,.string o.s,.string o.t] 28)).heap.size:=by simp
 have hbx:Blk (w.alloc (.cells #[.int .i64 o.kind,.int .i64 o.a,.int .i64 o.b,.int .i64 o.c,.string o.s,.string o.t] 28)) w.heap.size 28 o.cells:=Blk.new rfl rfl
 have hS:Std base B (M+o.s.size+o.t.size) σ w (w.alloc (.cells #[.int .i64 o.kind,.int .i64 o.a,.int .i64 o.b,.int .i64 o.c,.string o.s,.string o.t] 28)):=(Std.alloc ⟨⟨T,h⟩,Below.refl _ _⟩ _).more (by omega) (by omega)
 have HS:=hide hS
 have HK:=hide hk
 have HN:=hide hn
 have HX:=hide hbx
 clear hS h hk hn hbx
 unfold opV
 go_enter Tryz.func12,Tryz.ntmps12
 go_wp2_with fail
 obtain ⟨⟨T9,hI9⟩,hB9⟩:=HS.out
 refine (owner_other hI9 o hok HN.out (by omega)).mono ?_
 rintro e w2 ⟨rfl,⟨T2,hI2⟩,hb2⟩
 have hx2:=HX.out.below hb2 hlt
 have e0:=hx2.cell (i:=0) (v:=.int .i64 o.kind) rfl
 have e1:=hx2.cell (i:=1) (v:=.int .i64 o.a) rfl
 have e2:=hx2.cell (i:=2) (v:=.int .i64 o.b) rfl
 have e3:=hx2.cell (i:=3) (v:=.int .i64 o.c) rfl
 have e4:=hx2.cell (i:=4) (v:=.string o.s) rfl
 have e5:=hx2.cell (i:=5) (v:=.string o.t) rfl
 have HI2:=hide hI2
 have HB2:=hide (hB9.trans (hb2.mono hI9.bsz))
 clear hI2 hb2 hI9 hB9 HS HX hx2
 generalize w.heap.size=sb at *
 go_wp2_with fail
 refine (brought_any HI2.out o hok (by have:=HK.out;omega) (by omega) hM hM2).mono ?_
 rintro e w5 ⟨rfl,hd⟩
 have HD:=hide (Done.from HB2.out hd)
 clear hd HI2 HB2 e0 e1 e2 e3 e4 e5
 go_wp2
 go_ret
 exact ⟨rfl,HD.out⟩
end Go.Proofs.YtmjekklgefdolaaGreatDoor
namespace Go.Proofs.YtmjekklgefdolaaGreatDoor
open Go.ChangeShapes Go.WideShapes Go.ChangeAt Go.RowKit Go.Deep
theorem Script.alloc {w:World} {v:Value} {l:List OpR} (h:Script w v l) (o:Obj):Script (w.alloc o) v l:=by
 rcases h with h | ⟨g,p,c,h1,h2⟩
 ·exact .inl h
 ·exact .inr ⟨g,p,c,h1,fun i q hq j u hu=>World.cell?_alloc_later _ _ _ (h2 i q hq j u hu)⟩
theorem Kinds.new (w:World) (ks:List Int):Kinds (w.alloc (.cells (intV ks).toArray 3)) w.heap.size ks:=fun j k hk=>(Blk.new rfl rfl:Blk _ _ _ (intV ks)).cell (by simp[intV,hk])
theorem own_steps (ks:List Int) (hks:∀ k ∈ ks,30≤k) (b:Nat) (o:OpR) (hok:o.ok) (hk:kept ks o=true) (hlt:o.kind<30):Step 12 b b o:=by
 have h0:ownK o.kind=true:=by
  rcases Bool.or_eq_true_iff.1 hk with h | h
  ·exact h
  ·have:=hks o.kind (by simpa using h)
   omega
 have h1:o.kind=1∨o.kind=2∨o.kind=3∨o.kind=8∨o.kind=9∨o.kind ∈ [17,4,24,25,18,19,20,21,22,23]:=by
  simp[ownK] at h0
  simp only[List.mem_cons,List.not_mem_nil,or_false]
  omega
 rcases h1 with h | h | h | h | h | h
 ·exact drive_1 o hok h
 ·exact drive_2 o hok h
 ·exact drive_3 o hok h
 ·exact drive_8 o hok h
 ·exact drive_9 o hok h
 ·exact drive_mine o hok h
theorem kept_call {ks:List Int} {o:OpR} (hk:kept ks o=true) (h:30≤o.kind):o.kind ∈ ks:=by
 rcases Bool.or_eq_true_iff.1 hk with h0 | h0
 ·simp[ownK] at h0
  omega
 ·simpa using h0
end Go.Proofs.YtmjekklgefdolaaGreatDoor
namespace Go.Proofs.YtmjekklgefdolaaGreatDoor
open Go.RowKit
theorem Inv.uwr {T T':Tags} {base B M M':Nat} {σ:Sig} {w w':World} (h:Inv T base B M σ w) (hM:M≤M') (v':Value) (sp':List SpringR) (si':List SinkR) (wr':List WrR)
  (hs:Stays T T' w w' (fun c=>c=(1,0)∨c=(2,3)∨c.1=20∨c.1=21∨c.1=22∨c.1=24∨c.1=40∨c.1=41))
  (hw:At T' w' (1,0) B 44 ({ σ with vwr:=v',sp:=sp',si:=si',wr:=wr' }:Sig).cells)
  (nrsp:RowT T' w' (2,0) 91 2 σ.vsp sp'.length (sp'.flatMap fun p=>ptrs p.bx p.bm))
  (nsp:∀ i p,sp'[i]? = some p→At T' w' (20,i) p.bx 171 p.cells∧At T' w' (21,i) p.bm 171 p.cells)
  (nspK:∀ (i:Nat) (p:SpringR),sp'[i]? = some p→SpK M' p)
  (nrsi:RowT T' w' (2,1) 96 2 σ.vsi si'.length (si'.flatMap fun p=>ptrs p.bx p.bm))
  (nsi:∀ i p,si'[i]? = some p→(At T' w' (22,i) p.bx 173 (p.cells p.gx)∧At T' w' (23,i) p.gx 3 (intV p.plan))∧At T' w' (24,i) p.bm 173 (p.cells p.gm)∧At T' w' (25,i) p.gm 3 (intV p.plan))
  (nsiK:∀ (i:Nat) (p:SinkR),si'[i]? = some p→SiK M' p)
  (nrwr:RowT T' w' (2,3) 121 2 v' wr'.length (wr'.flatMap fun p=>ptrs p.bx p.bm))
  (nwr:∀ i p,wr'[i]? = some p→At T' w' (40,i) p.bx 201 p.xV∧At T' w' (41,i) p.bm 204 p.mV∧WrK M' p∧∃ s:SinkR,si'[p.k]? = some s∧s.bx=p.sx∧s.bm=p.sm)
  (nnwr:wr'.length≤M')
  (hbd:M'≤1073741824∧({ σ with vwr:=v',sp:=sp',si:=si',wr:=wr' }:Sig).sp.length≤M'∧({ σ with vwr:=v',sp:=sp',si:=si',wr:=wr' }:Sig).si.length≤M'∧({ σ with vwr:=v',sp:=sp',si:=si',wr:=wr' }:Sig).so.length≤M'∧({ σ with vwr:=v',sp:=sp',si:=si',wr:=wr' }:Sig).ha.length≤M'∧({ σ with vwr:=v',sp:=sp',si:=si',wr:=wr' }:Sig).wo.length≤M'∧({ σ with vwr:=v',sp:=sp',si:=si',wr:=wr' }:Sig).re.length≤M'∧({ σ with vwr:=v',sp:=sp',si:=si',wr:=wr' }:Sig).ls.length≤M'∧({ σ with vwr:=v',sp:=sp',si:=si',wr:=wr' }:Sig).ma.length≤M'∧({ σ with vwr:=v',sp:=sp',si:=si',wr:=wr' }:Sig).st.length≤M'∧({ σ with vwr:=v',sp:=sp',si:=si',wr:=wr' }:Sig).ta.length≤M')
  (hsz:(∀ x ∈ ({ σ with vwr:=v',sp:=sp',si:=si',wr:=wr' }:Sig).wo,x.size≤512*M'+65536)∧(∀ x ∈ ({ σ with vwr:=v',sp:=sp',si:=si',wr:=wr' }:Sig).re,x.size≤512*M'+65536)∧(∀ p ∈ ({ σ with vwr:=v',sp:=sp',si:=si',wr:=wr' }:Sig).ls,p.l.length≤M'∧∀ x ∈ p.l,x.size≤512*M'+65536)∧({ σ with vwr:=v',sp:=sp',si:=si',wr:=wr' }:Sig).file.size≤512*M'+65536∧({ σ with vwr:=v',sp:=sp',si:=si',wr:=wr' }:Sig).key.size≤512*M'+65536∧({ σ with vwr:=v',sp:=sp',si:=si',wr:=wr' }:Sig).nonce.size≤512*M'+65536):
  Inv T' base B M' { σ with vwr:=v',sp:=sp',si:=si',wr:=wr' } w' where
 hw:=hw
 rsp:=nrsp
 rsi:=nrsi
 rso:=h.rso.stays hs (by simp)
 rwr:=nrwr
 rrd:=h.rrd.stays hs (by simp)
 rpl:=h.rpl.stays hs (by simp)
 rha:=h.rha.stays hs (by simp)
 rma:=h.rma.stays hs (by simp)
 rst:=h.rst.stays hs (by simp)
 rta:=h.rta.stays hs (by simp)
 rwo:=h.rwo.stays hs (by simp)
 rre:=h.rre.stays hs (by simp)
 rls:=h.rls.stays hs (by simp)
 rlw:=h.rlw.stays hs (by simp)
 sp:=nsp
 si:=nsi
 so:=fun i p hp=>⟨⟨(h.so i p hp).1.1.stays hs (by simp),(h.so i p hp).1.2.stays hs (by simp)⟩,(h.so i p hp).2.1.stays hs (by simp),(h.so i p hp).2.2.stays hs (by simp)⟩
 pl:=fun i p hp=>⟨(h.pl i p hp).1.stays hs (by simp),(h.pl i p hp).2.1.stays hs (by simp),(h.pl i p hp).2.2.1,(h.pl i p hp).2.2.2.1,Nat.le_trans (h.pl i p hp).2.2.2.2 (by omega)⟩
 wr:=nwr
 rd:=fun i p hp=>⟨(h.rd i p hp).1.stays hs (by simp),(h.rd i p hp).2.1.stays hs (by simp),(h.rd i p hp).2.2.1.more hM,(h.rd i p hp).2.2.2⟩
 spK:=nspK
 siK:=nsiK
 soK:=fun i p hp=>(h.soK i p hp).more hM
 nwr:=nnwr
 nrd:=Nat.le_trans h.nrd hM
 ha:=fun i p hp=>⟨(h.ha i p hp).1.stays hs (h.ha i p hp).2.1 (by simp),(hs.tag _ (h.ha i p hp).1.lt).trans (h.ha i p hp).2.1,Nat.le_trans (h.ha i p hp).2.2 hM⟩
 ma:=fun i p hp=>⟨(h.ma i p hp).1.stays hs (h.ma i p hp).2.1 (by simp),(hs.tag _ (h.ma i p hp).1.lt).trans (h.ma i p hp).2.1,Nat.le_trans (h.ma i p hp).2.2.1 hM,Nat.le_trans (h.ma i p hp).2.2.2 (by omega)⟩
 st:=fun i p hp=>⟨(h.st i p hp).1.stays hs (by simp),(h.st i p hp).2.1,(h.st i p hp).2.2.1,(h.st i p hp).2.2.2.1,Nat.le_trans (h.st i p hp).2.2.2.2 hM⟩
 ta:=fun i p hp=>⟨(h.ta i p hp).1.stays hs (by simp),(h.ta i p hp).2.1,Nat.le_trans (h.ta i p hp).2.2 hM⟩
 ls:=fun i p hp=>⟨(h.ls i p hp).1.stays hs (by simp),(h.ls i p hp).2.stays hs (by simp)⟩
 npl:=Nat.le_trans h.npl hM
 old:=fun g hg=>(hs.tag g (Nat.lt_of_lt_of_le hg h.bsz)).trans (h.old g hg)
 two:=h.two
 bsz:=Nat.le_trans h.bsz hs.size
 kt:=h.kt.below (hs.below h.bsz h.old (by simp)) h.two
 ht:=h.ht.below (hs.below h.bsz h.old (by simp)) h.two
 bound:=hbd
 sizes:=hsz
def ansV (a:List UInt8 × Int):Value:=.tuple #[.string ⟨a.1.toArray⟩,.int .i64 a.2]
namespace Cha
def blockAns (key nonce:ByteArray) (n:Int):List UInt8 × Int:=
 if key.size≠32∨nonce.size≠12 then ([],1) else if n<0∨4294967295<n then ([],2) else (block key.data.toList nonce.data.toList n.toNat,0)
def xorAns (key nonce:ByteArray) (n used:Nat) (text:ByteArray):List UInt8 × Int:=
 if (4294967296-n)*64<used+text.size then ([],3) else (xorL key.data.toList nonce.data.toList n used text.data.toList text.size,0)
end Cha
namespace Pol
end Pol
namespace Box
def sealAns (key nonce aad text:ByteArray):List UInt8 × Int:=
 if key.size≠32∨nonce.size≠12 then ([],1) else (sealed key.data.toList nonce.data.toList aad.data.toList text.data.toList,0)
end Box
/-! What the program's calls must do: proved of each landed program by its own texts. -/
def BlockOK:Prop:=∀ (key nonce:ByteArray) (n:Int) (w:World),-9223372036854775808≤n→n≤9223372036854775807 →
 Calls Tryz.prog 49 #[.string key,.string nonce,.int .i64 n] w fun e w'=>e = .returned (ansV (Cha.blockAns key nonce n))∧Below w.heap.size w w'
def BeginOK:Prop:=∀ (key nonce:ByteArray) (n:Int) (T:Tags) (c:Nat × Nat) (w:World),-9223372036854775808≤n→n≤9223372036854775807 →
 Calls Tryz.prog 60 #[.string key,.string nonce,.int .i64 n] w fun e w'=>(∃ v,e = .returned (.tuple #[v,.int .i64 (Cha.blockAns key nonce n).2]) ∧
  (((Cha.blockAns key nonce n).2≠0∧v = .pointer none)∨((Cha.blockAns key nonce n).2=0∧∃ b,v = .pointer (some ⟨b,0,none⟩)∧SRep (fresh T w c) w' c b key.data.toList nonce.data.toList n.toNat 0)))∧Below w.heap.size w w'
def XorOK:Prop:=∀ (key nonce:ByteArray) (n used:Nat) (text:ByteArray) (T:Tags) (c:Nat × Nat) (b:Nat) (w:World),key.size=32→nonce.size=12→n≤4294967295→used≤1073741824→text.size≤1099511627→SRep T w c b key.data.toList nonce.data.toList n used →
 Calls Tryz.prog 61 #[.pointer (some ⟨b,0,none⟩),.string text] w fun e w'=>e = .returned (ansV (Cha.xorAns key nonce n used text)) ∧
  SRep (fresh T w c) w' c b key.data.toList nonce.data.toList n (if (Cha.xorAns key nonce n used text).2=0 then used+text.size else used)∧Stays T (fresh T w c) w w' (fun x=>x=c)
def SealOK:Prop:=∀ (key nonce aad text:ByteArray) (w:World),aad.size≤1099511627→text.size≤1099511627 →
 Calls Tryz.prog 53 #[.string key,.string nonce,.string aad,.string text] w fun e w'=>e = .returned (ansV (Box.sealAns key nonce aad text))∧Below w.heap.size w w'
theorem sizeU8 (w:World):(Go.sizeOf 5).run Tryz.prog w = .ok 1 w:=by
 obtain ⟨i0,hi,hz0,hz1,hz2⟩:=info_parts infoU8
 simp[Go.sizeOf,typeInfo,hi,hz1]
theorem wpList_copy_str {ops:Array Oper} {rest:List Oper} {o:Oper} {a:Act} {w:World} {Q:Exit→Act→World→Prop} (hgd:o.guard=none) (d x:Operand)
  (ho:o.op = .call { callee:=.builtin .copy,args:=#[d,x],argTypes:=#[62,9] })
  (b:Nat) (cs:List Value) (n dCap:Nat) (hB:Blk w b 5 cs) (hn:cs.length=n) (hd:a.eval d = .slice (some ⟨b,0,none⟩) n dCap) (t:ByteArray) (hx:a.eval x = .string t) (hle:t.size≤n)
  (h:∀ w',Blk w' b 5 (laidOver cs 0 (u8L t.data.toList))→w.grownBy w' (some b)→wpList Tryz.prog ops Q rest (a.put o.dst (goInt t.size)) w'):wpList Tryz.prog ops Q (o::rest) a w:=by
 have hrun:=run_copy_string (P:=Tryz.prog) w 62 9 o.type 5 b 0 n dCap t Tryz.underlying62 sizeU8 hle
  (fun j hj=>by rw[Nat.zero_add,hB.cell (v:=cs[j]'(by omega)) (by simp)];rfl) (fun j _=>hB.frozen _)
 refine wpList_plain hgd fun _ hK=>?_
 unfold Oper.wp
 simp[execOp,ho,resolve,invoke,builtin,hd,hx,hrun,Result.andThen]
 refine hK _ _ (h _ ?_ (World.grownBy.setCells _ _ _ (World.grownBy.refl w _)))
 have hl:(u8L t.data.toList).length=t.size:=by simp[u8L]
 exact Blk.setCells_same (u8L t.data.toList) cs 0 w hB (by omega)
theorem bytes_made (n:Nat):madeCells (Value.int .u8 0).cells (n*1)=(u8L (List.replicate n 0)).toArray:=by
 apply Array.ext
 ·simp[madeCells,u8L]
 ·intro i h1 h2
  simp[madeCells,Value.cells,Nat.mod_one,u8L]
theorem make_bytes (n:Nat) (hn:n≤1099511627776) (w:World):(Instr.makeSlice 62 (.int .i64 (n:Nat)) (.int .i64 (n:Nat))).run Tryz.prog w = .ok (.slice (some ⟨w.heap.size,0,none⟩) n n) (w.alloc (.cells (u8L (List.replicate n 0)).toArray 5)):=by
 obtain ⟨i0,hi,hz0,hz1,hz2⟩:=info_parts infoU8
 have h:=run_make (P:=Tryz.prog) w 62 5 i0 (.int .u8 0) Tryz.underlying62 hi hz0 .i64 .i64 (n:Int) (n:Int) (by omega) (by omega) (by rw[hz2];omega) (by omega)
 rw[hz1] at h
 simp only[Int.toNat_natCast] at h
 rw[bytes_made] at h
 exact h
def padB (key:List UInt8):List UInt8:=key++List.replicate (64-key.length) 0
theorem padB_len (key:List UInt8) (h:key.length≤64):(padB key).length=64:=by unfold padB;simp;omega
theorem padB_laid (key:List UInt8):laidOver (u8L (List.replicate 64 0)) 0 (u8L key)=u8L (padB key):=by
 unfold laidOver padB u8L
 rw[List.take_zero,List.nil_append,List.length_map,Nat.zero_add,←List.map_drop,List.drop_replicate,←List.map_append]
def mixed (p:List UInt8) (c:UInt8) (k:Nat):List UInt8:=(p.take k).map (· ^^^ c)++p.drop k
theorem mixed_at (p:List UInt8) (c:UInt8) (k:Nat) (hk:k<p.length):(mixed p c k)[k]? = some p[k]:=by
 unfold mixed
 rw[List.getElem?_append_right (by simp;omega)]
 simp[Nat.min_eq_left (Nat.le_of_lt hk),hk]
theorem mixed_set (p:List UInt8) (c:UInt8) (k:Nat) (hk:k<p.length):(mixed p c k).set k (p[k] ^^^ c)=mixed p c (k+1):=by
 have h1:p.drop k=p[k]::p.drop (k+1):=List.drop_eq_getElem_cons hk
 have h2:p.take (k+1)=p.take k++[p[k]]:=List.take_succ_eq_append_getElem hk
 have h3:((p.take k).map (· ^^^ c)).length=k:=by simp;omega
 unfold mixed
 rw[h1,h2,List.map_append,List.set_append_right _ _ (by omega),h3,Nat.sub_self,List.set_cons_zero,List.append_assoc]
 rfl
theorem u8_xor (x c:UInt8):bits .xor .u8 ((x.toNat:Nat):Int) ((c.toNat:Nat):Int)=(((x ^^^ c).toNat:Nat):Int):=by
 have hx:=UInt8.toNat_lt x
 have hc:=UInt8.toNat_lt c
 have h1:(BitVec.ofInt 8 ((x.toNat:Nat):Int)).toNat=x.toNat:=by rw[BitVec.ofInt_natCast,BitVec.toNat_ofNat];exact Nat.mod_eq_of_lt hx
 have h2:(BitVec.ofInt 8 ((c.toNat:Nat):Int)).toNat=c.toNat:=by rw[BitVec.ofInt_natCast,BitVec.toNat_ofNat];exact Nat.mod_eq_of_lt hc
 have h3:x.toNat ^^^ c.toNat<2 ^ 8:=Nat.xor_lt_two_pow hx hc
 show IntKind.u8.wrap ((BitVec.ofInt 8 ((x.toNat:Nat):Int) ^^^ BitVec.ofInt 8 ((c.toNat:Nat):Int)).toNat:Int)=_
 rw[BitVec.toNat_xor,h1,h2,UInt8.toNat_xor]
 show ((x.toNat ^^^ c.toNat:Nat):Int)%256=_
 omega
def zeroB:List Value:=u8L (List.replicate 64 0)
theorem make_zero (w:World):(Instr.makeSlice 62 (.int .i64 64) (.int .i64 64)).run Tryz.prog w = .ok (.slice (some ⟨w.heap.size,0,none⟩) 64 64) (w.alloc (.cells zeroB.toArray 5)):=make_bytes 64 (by decide) w
theorem zeroB_len:zeroB.length=64:=by simp[zeroB,u8L]
theorem blk_str {w:World} {b:Nat} {l:List UInt8} (h:Blk w b 5 (u8L l)) (n cap:Nat) (hn:l.length=n):(convert 62 9 (.slice (some ⟨b,0,none⟩) n cap)).run Tryz.prog w = .ok (.string ⟨l.toArray⟩) w:=by
 subst hn
 refine run_convert_bytes_back w 62 9 5 ⟨b,0,none⟩ cap l Tryz.underlying62 Tryz.underlying5 Tryz.underlying9 (fun j hj=>?_)
 rw[Addr.add_mid,Nat.zero_add]
 exact h.cell (by simp[u8L,hj])
theorem mixed_all (p:List UInt8) (c:UInt8) (k:Nat) (hk:p.length≤k):mixed p c k=p.map (· ^^^ c):=by
 unfold mixed
 rw[List.take_of_length_le hk,List.drop_eq_nil_of_le hk,List.append_nil]
theorem mixed_zero (p:List UInt8) (c:UInt8):mixed p c 0=p:=by simp[mixed]
theorem mixed_store {wr:World} {b k:Nat} {p:List UInt8} {c:UInt8} (h:Blk wr b 5 (u8L (mixed p c k))) (hk:k<p.length):Blk (wr.setCell ⟨b,k,none⟩ (.int .u8 (((p[k] ^^^ c).toNat:Nat):Int))) b 5 (u8L (mixed p c (k+1))):=by
 have h1:=h.setCell_same k (.int .u8 (((p[k] ^^^ c).toNat:Nat):Int))
 rw[←mixed_set p c k hk]
 unfold u8L at h1 ⊢
 rw[List.map_set]
 exact h1
set_option maxRecDepth 100000 in
set_option maxHeartbeats 800000 in
theorem begun_any (key:ByteArray) (c:UInt8) (w:World) (hl:key.size≤64) (hk:KTab w) (hH:HTab w) (h2:2≤w.heap.size):
  Calls Tryz.prog 103 #[.string key,.int .u8 ((c.toNat:Nat):Int)] w fun e w'=>∃ b,e = .returned (.pointer (some ⟨b,0,none⟩))∧w.heap.size≤b∧HRep w' b 135 [] [] ((padB key.data.toList).map (· ^^^ c))∧Below w.heap.size w w':=by
 have hmk:=make_zero
 have hkl:key.data.toList.length=key.size:=by rw[Array.length_toList];rfl
 have hpl:=padB_len key.data.toList (by omega)
 have hla:=padB_laid key.data.toList
 generalize padB key.data.toList=pb at *
 have HL:=hide hpl
 have HLA:=hide hla
 clear hpl hla hkl
 go_enter Tryz.func103,Tryz.ntmps103
 go_wp2_with (refine wpList_copy_str rfl (.tmp 9) (.tmp 10) rfl w.heap.size zeroB 64 64 (Blk.new rfl rfl) zeroB_len rfl key rfl hl ?_;intro w1 hB1 hG1)
 have hbe1:Below w.heap.size w w1:=((World.grownBy.refl w none).new hG1).none
 rw[show zeroB=u8L (List.replicate 64 0) from rfl,HLA.out,←mixed_zero pb c] at hB1
 clear hG1 hmk
 go_loopw [6] (fun i wr=>∃ k:Nat,k≤64∧i = .int .i64 k∧Blk wr w.heap.size 5 (u8L (mixed pb c k))∧Below w.heap.size w wr) (fun i _=>64-(intOf i).toNat)
 case atStart=>exact ⟨0,by omega,rfl,hB1,hbe1⟩
 case round=>
  obtain ⟨k,hk2,rfl,hB,hbe⟩:=hrel
  by_cases hlt:k<64
  ·have hkp:k<pb.length:=by rw[HL.out];exact hlt
   have c0:wr.cell? ⟨w.heap.size,k,none⟩=some (.int .u8 ((pb[k].toNat:Nat):Int)):=hB.cell (by simp[u8L,mixed_at pb c k hkp])
   have f0:=hB.frozen k
   have t1:=u8_xor pb[k] c
   have HN:=hide (mixed_store hB hkp)
   have HBE:=hide hbe
   clear hB hbe hB1 hbe1
   generalize pb[k] ^^^ c=y at *
   generalize pb[k]=x at *
   have jk:(k:Int)<64:=by omega
   go_wp2
   go_roundw
   case rel=>exact ⟨k+1,by omega,by go_num,HN.out,HBE.out.setCell (by simp) _⟩
   case measure=>simp[intOf];omega
  ·have hk64:k=64:=by omega
   subst hk64
   rw[mixed_all pb c 64 (by rw[HL.out];exact Nat.le_refl _)] at hB
   have hpm:(pb.map (· ^^^ c)).length=64:=by rw[List.length_map];exact HL.out
   generalize hpe:pb.map (· ^^^ c)=pm at *
   have HPE:=hide hpe
   clear hpe
   have hHr:=hH.below hbe h2
   have hKr:=hk.below hbe h2
   have hbs:=hB.lt
   clear hB1 hbe1
   have HB:=hide hB
   have HBE:=hide hbe
   have HPM:=hide hpm
   clear hB hbe hpm hk hH
   go_wp2_with fail
   refine (begin_any _ hHr).mono ?_
   rintro e w2 ⟨rfl,hr2,hb2⟩
   have hK2:=hKr.below hb2 (by have:=HBE.out.size;omega)
   have hcv:=blk_str (HB.out.below hb2 hbs) 64 64 HPM.out
   have h2b:2≤wr.heap.size:=by have:=HBE.out.size;omega
   have hge:w.heap.size≤wr.heap.size:=HBE.out.size
   have HW:=hide (hwrite_any wr.heap.size 135 [] [] [] ⟨pm.toArray⟩ w2 (by show 0+pm.toArray.size<2 ^ 62;rw[List.size_toArray,HPM.out];decide) hr2 hK2 h2b)
   have HB2:=hide (HBE.out.trans (hb2.mono hge))
   have hl2:=hr2.lt
   clear hr2 hb2 hK2 hHr hKr
   generalize wr.heap.size=nb at *
   go_wp2_with fail
   refine HW.out.mono ?_
   rintro e w3 ⟨rfl,hr3,hg3⟩
   have HR3:=hide hr3
   have HB3:=hide (HB2.out.trans (RowKit.Below.of_grown hg3 hge (by omega)))
   clear hr3 hg3 hcv
   go_wp2
   go_ret
   rw[HPE.out]
   exact ⟨_,rfl,hge,HR3.out,HB3.out⟩
theorem padL_short (key:List UInt8) (c:UInt8) (h:key.length≤64):padL key c=(padB key).map (· ^^^ c):=by
 unfold padL padB
 rw[if_neg (by omega)]
theorem padL_long (key:List UInt8) (c:UInt8) (h:64<key.length):padL key c=(padB (Sha.sum key)).map (· ^^^ c):=by
 unfold padL padB
 rw[if_pos h]
theorem padL_len (key:List UInt8) (c:UInt8):(padL key c).length=64:=by
 by_cases h:64<key.length
 ·rw[padL_long key c h,List.length_map,padB_len _ (by rw[Sha.sum_len];decide)]
 ·rw[padL_short key c (by omega),List.length_map,padB_len _ (by omega)]
set_option maxRecDepth 100000 in
set_option maxHeartbeats 800000 in
theorem pad_short (key:ByteArray) (c:UInt8) (w:World) (hl:key.size≤64):
  Calls Tryz.prog 46 #[.string key,.int .u8 ((c.toNat:Nat):Int)] w fun e w'=>e = .returned (.string ⟨(padL key.data.toList c).toArray⟩)∧Below w.heap.size w w':=by
 have hmk:=make_zero
 have hkl:key.data.toList.length=key.size:=by rw[Array.length_toList];rfl
 rw[padL_short _ _ (by omega)]
 have hpl:=padB_len key.data.toList (by omega)
 have hla:=padB_laid key.data.toList
 generalize padB key.data.toList=pb at *
 have HL:=hide hpl
 have HLA:=hide hla
 clear hpl hla hkl
 have jl:¬ (64:Int)<(key.size:Int):=by omega
 go_enter Tryz.func46,Tryz.ntmps46
 go_wp2_with (refine wpList_copy_str rfl (.tmp 13) (.tmp 14) rfl w.heap.size zeroB 64 64 (Blk.new rfl rfl) zeroB_len rfl key rfl hl ?_;intro w1 hB1 hG1)
 have hbe1:Below w.heap.size w w1:=((World.grownBy.refl w none).new hG1).none
 rw[show zeroB=u8L (List.replicate 64 0) from rfl,HLA.out,←mixed_zero pb c] at hB1
 clear hG1 hmk
 go_loopw [6] (fun i wr=>∃ k:Nat,k≤64∧i = .int .i64 k∧Blk wr w.heap.size 5 (u8L (mixed pb c k))∧Below w.heap.size w wr) (fun i _=>64-(intOf i).toNat)
 case atStart=>exact ⟨0,by omega,rfl,hB1,hbe1⟩
 case round=>
  obtain ⟨k,hk2,rfl,hB,hbe⟩:=hrel
  by_cases hlt:k<64
  ·have hkp:k<pb.length:=by rw[HL.out];exact hlt
   have c0:wr.cell? ⟨w.heap.size,k,none⟩=some (.int .u8 ((pb[k].toNat:Nat):Int)):=hB.cell (by simp[u8L,mixed_at pb c k hkp])
   have f0:=hB.frozen k
   have t1:=u8_xor pb[k] c
   have HN:=hide (mixed_store hB hkp)
   have HBE:=hide hbe
   clear hB hbe hB1 hbe1
   generalize pb[k] ^^^ c=y at *
   generalize pb[k]=x at *
   have jk:(k:Int)<64:=by omega
   go_wp2
   go_roundw
   case rel=>exact ⟨k+1,by omega,by go_num,HN.out,HBE.out.setCell (by simp) _⟩
   case measure=>simp[intOf];omega
  ·have hk64:k=64:=by omega
   subst hk64
   rw[mixed_all pb c 64 (by rw[HL.out];exact Nat.le_refl _)] at hB
   have hpm:(pb.map (· ^^^ c)).length=64:=by rw[List.length_map];exact HL.out
   generalize hpe:pb.map (· ^^^ c)=pm at *
   have HPE:=hide hpe
   clear hpe
   have hcv:=blk_str hB 64 64 hpm
   have HBE:=hide hbe
   clear hB hbe hpm hB1 hbe1
   go_wp2
   go_ret
   rw[HPE.out]
   exact ⟨rfl,HBE.out⟩
set_option maxRecDepth 100000 in
set_option maxHeartbeats 800000 in
theorem pad_long (key0:ByteArray) (c:UInt8) (w0:World) (hl0:64<key0.size) (hl1:key0.size≤1099511627):
  Calls Tryz.prog 46 #[.string key0,.int .u8 ((c.toNat:Nat):Int)] w0 fun e w'=>e = .returned (.string ⟨(padL key0.data.toList c).toArray⟩)∧Below w0.heap.size w0 w':=by
 have hmk:=make_zero
 have hkl:key0.data.toList.length=key0.size:=by rw[Array.length_toList];rfl
 rw[padL_long _ _ (by omega)]
 have href:=fun w=>refSum_any key0 w hl1
 have hsl:(Sha.sum key0.data.toList).length=32:=Sha.sum_len _
 generalize Sha.sum key0.data.toList=sm at *
 obtain ⟨key,hkey⟩:∃ key:ByteArray,key=⟨sm.toArray⟩:=⟨_,rfl⟩
 have hks:key.data.toList=sm:=by rw[hkey]
 have hl:key.size≤64:=by rw[hkey];show sm.toArray.size≤64;rw[List.size_toArray];omega
 rw[←hkey] at href
 have hpl:=padB_len sm (by omega)
 have hla:laidOver (u8L (List.replicate 64 0)) 0 (u8L key.data.toList)=u8L (padB sm):=by rw[hks];exact padB_laid sm
 generalize padB sm=pb at *
 have HL:=hide hpl
 have HREF:=hide href
 have HLA:=hide hla
 clear hpl hla hkl href hks hkey hsl
 have jl:(64:Int)<(key0.size:Int):=by omega
 go_enter Tryz.func46,Tryz.ntmps46
 go_wp2_with fail
 refine (HREF.out _).mono ?_
 rintro e w ⟨rfl,hb0⟩
 have HB0:=hide hb0
 clear hb0
 go_wp2_with (refine wpList_copy_str rfl (.tmp 13) (.tmp 14) rfl w.heap.size zeroB 64 64 (Blk.new rfl rfl) zeroB_len rfl key rfl hl ?_;intro w1 hB1 hG1)
 have hbe1:Below w.heap.size w w1:=((World.grownBy.refl w none).new hG1).none
 rw[show zeroB=u8L (List.replicate 64 0) from rfl,HLA.out,←mixed_zero pb c] at hB1
 clear hG1 hmk
 go_loopw [6] (fun i wr=>∃ k:Nat,k≤64∧i = .int .i64 k∧Blk wr w.heap.size 5 (u8L (mixed pb c k))∧Below w.heap.size w wr) (fun i _=>64-(intOf i).toNat)
 case atStart=>exact ⟨0,by omega,rfl,hB1,hbe1⟩
 case round=>
  obtain ⟨k,hk2,rfl,hB,hbe⟩:=hrel
  by_cases hlt:k<64
  ·have hkp:k<pb.length:=by rw[HL.out];exact hlt
   have c0:wr.cell? ⟨w.heap.size,k,none⟩=some (.int .u8 ((pb[k].toNat:Nat):Int)):=hB.cell (by simp[u8L,mixed_at pb c k hkp])
   have f0:=hB.frozen k
   have t1:=u8_xor pb[k] c
   have HN:=hide (mixed_store hB hkp)
   have HBE:=hide hbe
   clear hB hbe hB1 hbe1
   generalize pb[k] ^^^ c=y at *
   generalize pb[k]=x at *
   have jk:(k:Int)<64:=by omega
   go_wp2
   go_roundw
   case rel=>exact ⟨k+1,by omega,by go_num,HN.out,HBE.out.setCell (by simp) _⟩
   case measure=>simp[intOf];omega
  ·have hk64:k=64:=by omega
   subst hk64
   rw[mixed_all pb c 64 (by rw[HL.out];exact Nat.le_refl _)] at hB
   have hpm:(pb.map (· ^^^ c)).length=64:=by rw[List.length_map];exact HL.out
   generalize hpe:pb.map (· ^^^ c)=pm at *
   have HPE:=hide hpe
   clear hpe
   have hcv:=blk_str hB 64 64 hpm
   have HBE:=hide hbe
   clear hB hbe hpm hB1 hbe1
   go_wp2
   go_ret
   rw[HPE.out]
   exact ⟨rfl,HB0.out.trans (HBE.out.mono HB0.out.size)⟩
theorem padK_any (key:ByteArray) (c:UInt8) (w:World) (hl:key.size≤1099511627):
  Calls Tryz.prog 46 #[.string key,.int .u8 ((c.toNat:Nat):Int)] w fun e w'=>e = .returned (.string ⟨(padL key.data.toList c).toArray⟩)∧Below w.heap.size w w':=by
 by_cases h:64<key.size
 ·exact pad_long key c w h hl
 ·exact pad_short key c w (by omega)
end Go.Proofs.YtmjekklgefdolaaGreatDoor
