import Derived.Test.YtkpmalfigmimaaaGreatDoorZ0
import Derived.Test.YtkpmalfigmimaaaGreatDoorD1B
import Derived.Test.YtkpmalfigmimaaaGreatDoorD1D
import Derived.Test.YtkpmalfigmimaaaGreatDoorC2G64
import Derived.BigQuiet
set_option linter.unusedVariables false
set_option linter.unusedSimpArgs false
set_option maxRecDepth 100000
set_option maxHeartbeats 8000000
namespace Go.Proofs.YtkpmalfigmimaaaGreatDoor
open Go.RowKit
open M
structure qIT (w:World) (g0 b h:Nat) (s:ByteArray) (a:Nat) (R:List Bool) (cs:Array Value) (wr:World):Prop where
 rd:Rd wr b 0 s a 0
 rest:(rb s).drop a=R
 own:wr.heap[h]?=some (.cells cs 60 (0,0))
 res:wr.heap[g0]?=some (.cells #[.int .i64 0,.int .i64 0,.int .i64 0,.int .i64 0,.int .i64 0,.int .u64 0,.int .u64 0,.int .i64 0,.int .i64 0,.int .i64 0,.int .i64 0] 60 (0,0))
 bel:Below g0 w wr
 ne:g0<b∧b<h
theorem qIT.read {w:World} {g0 b h:Nat} {s:ByteArray} {a n y x a':Nat} {e1:Int} {R':List Bool} {cs:Array Value} {wr w2:World} (S:qIT w g0 b h s a (bitsOf y n++R') cs wr) (hy:y<2^n) (hk:Hk (fun y=>bitsOf y n) (fun y=>y<2^n) wr w2 b 0 s a 0 x a' e1):x=y∧qIT w g0 b h s a' R' cs w2:=by
 obtain ⟨h1,h2,h3⟩:=hk.drop rfl y R' hy S.rest
 subst h2
 have hl:=qB S.own
 have hl0:=qB S.res
 refine ⟨h1,hk.rd,h3,?_,?_,S.bel.trans (hk.only.below (by have:=S.ne;omega) (by omega)),S.ne⟩
 ·rw [hk.only.block h hl (by have:=S.ne;omega)];exact S.own
 ·rw [hk.only.block g0 hl0 (by have:=S.ne;omega)];exact S.res
theorem qIT.put {w:World} {g0 b h:Nat} {s:ByteArray} {a:Nat} {R:List Bool} {cs:Array Value} {wr:World} (S:qIT w g0 b h s a R cs wr) (i:Nat) (v:Value):qIT w g0 b h s a R (cs.setIfInBounds i v) (wr.setCell ⟨h,i,none⟩ v):=by
 refine ⟨S.rd.setOther' h i (by have:=S.ne;omega) v,S.rest,heap_setCell_same _ _ _ _ _ _ S.own,?_,qH S.bel _ _ _ (by have:=S.ne;omega),S.ne⟩
 rw [Below.heap_setCell _ _ _ _ (show g0≠h by have:=S.ne;omega)];exact S.res
theorem qDG (kd co ct na F L le gr ti va:Nat) (fi la:Int) (v:Value) (w:World) (hv:jW w v (packed (hdB kd co ct na F L le gr ti va))) (h0:kd<256) (h1:co<256) (h2:ct<65536) (h3:na<65536) (hF:F<18446744073709551616) (hL:L<18446744073709551616) (h6:le<18446744073709551616) (h7:gr<18446744073709551616) (h8:ti<4294967296) (h9:va<4294967296) (h4:IntKind.i64.wrap (F:Int)=fi) (h5:IntKind.i64.wrap (L:Int)=la):
  Calls Tryz.prog 47 #[v] w fun e w'=>e= .returned (.agg (hdA kd ct na fi la le gr ((ti:Int)+(va:Int)+55) co ti va))∧Below w.heap.size w w':=by
 have HV:=qA hv
 obtain ⟨bs,hbs⟩:∃bs,packed (hdB kd co ct na F L le gr ti va)=bs:=⟨_,rfl⟩
 rw [hbs] at HV
 have HL:Hid (bs.length≤1000000000000):=by show _≤_;rw [←hbs,packed_length,xJ];omega
 have HR:Hid (∃r,(rb (qG bs)).drop 0=bitsOf 181 8++(bitsOf kd 8++(bitsOf co 8++(bitsOf ct 16++(bitsOf na 16++(bitsOf F 64++(bitsOf L 64++(bitsOf le 64++(bitsOf gr 64++(bitsOf ti 32++(bitsOf va 32++r))))))))))):=by
  show∃r,_
  rw [List.drop_zero,qV bs (by rw [←hbs];exact zU _),←hbs,rbits_packed]
  unfold hdB
  simp only [List.append_assoc]
  exact ⟨_,rfl⟩
 have g4:wrap64 (F:Int)=fi:=by rw [←h4,IntKind.wrap_i64];unfold wrap64;omega
 have g5:wrap64 (L:Int)=la:=by rw [←h5,IntKind.wrap_i64];unfold wrap64;omega
 clear hv hbs
 obtain ⟨g0,hg0⟩:∃g,w.heap.size=g:=⟨_,rfl⟩
 obtain ⟨W1,hW1⟩:∃W1,w.alloc (.cells #[.int .i64 0,.int .i64 0,.int .i64 0,.int .i64 0,.int .i64 0,.int .u64 0,.int .u64 0,.int .i64 0,.int .i64 0,.int .i64 0,.int .i64 0] 60)=W1:=⟨_,rfl⟩
 have HW1:Hid (W1.heap[g0]?=some (.cells #[.int .i64 0,.int .i64 0,.int .i64 0,.int .i64 0,.int .i64 0,.int .u64 0,.int .u64 0,.int .i64 0,.int .i64 0,.int .i64 0,.int .i64 0] 60 (0,0))∧Below g0 w W1∧W1.heap.size=g0+1):=by rw [←hW1,←hg0];exact ⟨heap_alloc_new _ _,(Below.refl _ _).alloc (Nat.le_refl _) _,by simp⟩
 have HV1:Hid (jW W1 v bs):=by rw [←hW1];exact qD HV.out ((Below.refl _ _).alloc (Nat.le_refl _) _)
 have HG:=qA hg0
 have HH:=qA (And.intro h0 (And.intro h1 (And.intro h2 (And.intro h3 (And.intro hF (And.intro hL (And.intro h6 (And.intro h7 (And.intro h8 h9)))))))))
 clear h0 h1 h2 h3 hF hL h6 h7
 go_enter Tryz.func47,Tryz.ntmps47
 go_wp2_with fail
 (try rw [hW1])
 (try rw [hg0])
 clear hW1 hg0
 refine (kJ W1 v bs HV1.out).mono ?_
 rintro e w2 ⟨rfl,hw2⟩
 obtain ⟨b,hb⟩:∃b,W1.heap.size=b:=⟨_,rfl⟩
 have HRd:Hid (Rd w2 b 0 (qG bs) 0 0∧w2.heap.size=b+1∧Below b W1 w2):=by
  rw [hw2,←hb];exact ⟨xZ W1 bs HL.out,by simp,(Below.refl _ _).alloc (Nat.le_refl _) _⟩
 have HBG:Hid (b=g0+1):=by rw [←hb];exact HW1.out.2.2
 rw [hb]
 clear hw2 hb
 go_wp2_with fail
 refine (zJ b 0 (qG bs) 0 8 0 w2 HRd.out.1 (by omega)).mono ?_
 rintro e w3 ⟨x,a3,e1,rfl,hx,HK⟩
 obtain ⟨r,hr⟩:=HR.out
 obtain ⟨-,he1,hr3⟩:=HK.drop rfl 181 _ (by decide) hr
 subst he1
 go_upto_region 4 with fail
 obtain ⟨h,hh⟩:∃h,w3.heap.size=h:=⟨_,rfl⟩
 obtain ⟨W4,hW4⟩:∃W4,w3.alloc (.cells #[.int .i64 0,.int .i64 0,.int .i64 0,.int .i64 0,.int .i64 0,.int .u64 0,.int .u64 0,.int .i64 0,.int .i64 0,.int .i64 0,.int .i64 0] 60)=W4:=⟨_,rfl⟩
 have HS:Hid (qIT w g0 b h (qG bs) a3 (bitsOf kd 8++(bitsOf co 8++(bitsOf ct 16++(bitsOf na 16++(bitsOf F 64++(bitsOf L 64++(bitsOf le 64++(bitsOf gr 64++(bitsOf ti 32++(bitsOf va 32++r)))))))))) #[.int .i64 0,.int .i64 0,.int .i64 0,.int .i64 0,.int .i64 0,.int .u64 0,.int .u64 0,.int .i64 0,.int .i64 0,.int .i64 0,.int .i64 0] W4):=by
  have hbg:=HBG.out
  have hs2:=HRd.out.2.1
  have hs3:=HK.only.size
  have hs1:=HW1.out.2.2
  have hA:Below w3.heap.size w3 W4:=by rw [←hW4];exact (Below.refl _ _).alloc (Nat.le_refl _) _
  have B12:Below g0 W1 w2:=HRd.out.2.2.mono (by omega)
  have B23:Below b w2 w3:=HK.only.below (Nat.le_refl _) (by omega)
  refine ⟨HK.rd.below hA (by omega),hr3,by rw [←hW4,←hh];exact heap_alloc_new _ _,?_,((HW1.out.2.1.trans (HRd.out.2.2.mono (by omega))).trans (B23.mono (by omega))).trans (hA.mono (by omega)),by omega⟩
  rw [hA.block g0 (by omega),B23.block g0 (by omega),HRd.out.2.2.block g0 (by omega)];exact HW1.out.1
 rw [hW4]
 rw [hh]
 clear hW4 hh hr hr3 HK hx HRd HBG HW1 HV HV1 HR HL
 go_wp2_with fail
 refine (zJ b 0 (qG bs) a3 8 0 W4 HS.out.rd (by omega)).mono ?_
 rintro e w5 ⟨x0,b0,e0,rfl,hx,HK⟩
 obtain ⟨hxe,hS2⟩:=HS.out.read HH.out.1 HK
 obtain rfl:=hxe.symm
 have cc:w5.cell? ⟨h,0,none⟩=some (.int .i64 0):=by rw [cell_of_row _ _ _ _ _ _ hS2.own];rfl
 have ff:=froz hS2.own 0
 obtain ⟨N0,hN⟩:∃N,w5.setCell ⟨h,0,none⟩ (.int .i64 (kd:Int))=N:=⟨_,rfl⟩
 have hS3:=hS2.put 0 (.int .i64 (kd:Int))
 rw [hN] at hS3
 simp only [List.setIfInBounds_toArray,List.set_cons_zero,List.set_cons_succ] at hS3
 replace HS:=qA hS3
 clear hS3
 have hsm:kd<256:=hx
 clear hS2 HK hx
 go_upto_region 5 with fail
 (try rw [hN])
 clear hN cc ff hsm
 go_wp2_with fail
 refine (zJ b 0 (qG bs) b0 8 0 N0 HS.out.rd (by omega)).mono ?_
 rintro e w6 ⟨x1,b1,e1,rfl,hx,HK⟩
 obtain ⟨hxe,hS2⟩:=HS.out.read HH.out.2.1 HK
 obtain rfl:=hxe.symm
 have cc:w6.cell? ⟨h,8,none⟩=some (.int .i64 0):=by rw [cell_of_row _ _ _ _ _ _ hS2.own];rfl
 have ff:=froz hS2.own 8
 obtain ⟨N1,hN⟩:∃N,w6.setCell ⟨h,8,none⟩ (.int .i64 (co:Int))=N:=⟨_,rfl⟩
 have hS3:=hS2.put 8 (.int .i64 (co:Int))
 rw [hN] at hS3
 simp only [List.setIfInBounds_toArray,List.set_cons_zero,List.set_cons_succ] at hS3
 replace HS:=qA hS3
 clear hS3
 have hsm:co<256:=hx
 clear hS2 HK hx
 go_upto_region 6 with fail
 (try rw [hN])
 clear hN cc ff hsm
 go_wp2_with fail
 refine (zJ b 0 (qG bs) b1 16 0 N1 HS.out.rd (by omega)).mono ?_
 rintro e w7 ⟨x2,b2,e2,rfl,hx,HK⟩
 obtain ⟨hxe,hS2⟩:=HS.out.read HH.out.2.2.1 HK
 obtain rfl:=hxe.symm
 have cc:w7.cell? ⟨h,1,none⟩=some (.int .i64 0):=by rw [cell_of_row _ _ _ _ _ _ hS2.own];rfl
 have ff:=froz hS2.own 1
 obtain ⟨N2,hN⟩:∃N,w7.setCell ⟨h,1,none⟩ (.int .i64 (ct:Int))=N:=⟨_,rfl⟩
 have hS3:=hS2.put 1 (.int .i64 (ct:Int))
 rw [hN] at hS3
 simp only [List.setIfInBounds_toArray,List.set_cons_zero,List.set_cons_succ] at hS3
 replace HS:=qA hS3
 clear hS3
 have hsm:ct<65536:=hx
 clear hS2 HK hx
 go_upto_region 7 with fail
 (try rw [hN])
 clear hN cc ff hsm
 go_wp2_with fail
 refine (zJ b 0 (qG bs) b2 16 0 N2 HS.out.rd (by omega)).mono ?_
 rintro e w8 ⟨x3,b3,e3,rfl,hx,HK⟩
 obtain ⟨hxe,hS2⟩:=HS.out.read HH.out.2.2.2.1 HK
 obtain rfl:=hxe.symm
 have cc:w8.cell? ⟨h,2,none⟩=some (.int .i64 0):=by rw [cell_of_row _ _ _ _ _ _ hS2.own];rfl
 have ff:=froz hS2.own 2
 obtain ⟨N3,hN⟩:∃N,w8.setCell ⟨h,2,none⟩ (.int .i64 (na:Int))=N:=⟨_,rfl⟩
 have hS3:=hS2.put 2 (.int .i64 (na:Int))
 rw [hN] at hS3
 simp only [List.setIfInBounds_toArray,List.set_cons_zero,List.set_cons_succ] at hS3
 replace HS:=qA hS3
 clear hS3
 have hsm:na<65536:=hx
 clear hS2 HK hx
 go_upto_region 8 with fail
 (try rw [hN])
 clear hN cc ff hsm
 go_wp2_with fail
 refine (zJ b 0 (qG bs) b3 64 0 N3 HS.out.rd (by omega)).mono ?_
 rintro e w9 ⟨x4,b4,e4,rfl,hx,HK⟩
 obtain ⟨hxe,hS2⟩:=HS.out.read HH.out.2.2.2.2.1 HK
 obtain rfl:=hxe.symm
 have cc:w9.cell? ⟨h,3,none⟩=some (.int .i64 0):=by rw [cell_of_row _ _ _ _ _ _ hS2.own];rfl
 have ff:=froz hS2.own 3
 obtain ⟨N4,hN⟩:∃N,w9.setCell ⟨h,3,none⟩ (.int .i64 fi)=N:=⟨_,rfl⟩
 have hS3:=hS2.put 3 (.int .i64 fi)
 rw [hN] at hS3
 simp only [List.setIfInBounds_toArray,List.set_cons_zero,List.set_cons_succ] at hS3
 replace HS:=qA hS3
 clear hS3
 clear hS2 HK hx
 go_upto_region 9 with fail
 (try rw [hN])
 clear hN cc ff
 go_wp2_with fail
 refine (zJ b 0 (qG bs) b4 64 0 N4 HS.out.rd (by omega)).mono ?_
 rintro e w10 ⟨x5,b5,e5,rfl,hx,HK⟩
 obtain ⟨hxe,hS2⟩:=HS.out.read HH.out.2.2.2.2.2.1 HK
 obtain rfl:=hxe.symm
 have cc:w10.cell? ⟨h,4,none⟩=some (.int .i64 0):=by rw [cell_of_row _ _ _ _ _ _ hS2.own];rfl
 have ff:=froz hS2.own 4
 obtain ⟨N5,hN⟩:∃N,w10.setCell ⟨h,4,none⟩ (.int .i64 la)=N:=⟨_,rfl⟩
 have hS3:=hS2.put 4 (.int .i64 la)
 rw [hN] at hS3
 simp only [List.setIfInBounds_toArray,List.set_cons_zero,List.set_cons_succ] at hS3
 replace HS:=qA hS3
 clear hS3
 clear hS2 HK hx
 go_upto_region 10 with fail
 (try rw [hN])
 clear hN cc ff
 go_wp2_with fail
 refine (zJ b 0 (qG bs) b5 64 0 N5 HS.out.rd (by omega)).mono ?_
 rintro e w11 ⟨x6,b6,e6,rfl,hx,HK⟩
 obtain ⟨hxe,hS2⟩:=HS.out.read HH.out.2.2.2.2.2.2.1 HK
 obtain rfl:=hxe.symm
 have cc:w11.cell? ⟨h,5,none⟩=some (.int .u64 0):=by rw [cell_of_row _ _ _ _ _ _ hS2.own];rfl
 have ff:=froz hS2.own 5
 obtain ⟨N6,hN⟩:∃N,w11.setCell ⟨h,5,none⟩ (.int .u64 (le:Int))=N:=⟨_,rfl⟩
 have hS3:=hS2.put 5 (.int .u64 (le:Int))
 rw [hN] at hS3
 simp only [List.setIfInBounds_toArray,List.set_cons_zero,List.set_cons_succ] at hS3
 replace HS:=qA hS3
 clear hS3
 clear hS2 HK hx
 go_upto_region 11 with fail
 (try rw [hN])
 clear hN cc ff
 go_wp2_with fail
 refine (zJ b 0 (qG bs) b6 64 0 N6 HS.out.rd (by omega)).mono ?_
 rintro e w12 ⟨x7,b7,e7,rfl,hx,HK⟩
 obtain ⟨hxe,hS2⟩:=HS.out.read HH.out.2.2.2.2.2.2.2.1 HK
 obtain rfl:=hxe.symm
 have cc:w12.cell? ⟨h,6,none⟩=some (.int .u64 0):=by rw [cell_of_row _ _ _ _ _ _ hS2.own];rfl
 have ff:=froz hS2.own 6
 obtain ⟨N7,hN⟩:∃N,w12.setCell ⟨h,6,none⟩ (.int .u64 (gr:Int))=N:=⟨_,rfl⟩
 have hS3:=hS2.put 6 (.int .u64 (gr:Int))
 rw [hN] at hS3
 simp only [List.setIfInBounds_toArray,List.set_cons_zero,List.set_cons_succ] at hS3
 replace HS:=qA hS3
 clear hS3
 clear hS2 HK hx
 go_upto_region 12 with fail
 (try rw [hN])
 clear hN cc ff
 go_wp2_with fail
 refine (zJ b 0 (qG bs) b7 32 0 N7 HS.out.rd (by omega)).mono ?_
 rintro e w13 ⟨x8,b8,e8,rfl,hx,HK⟩
 obtain ⟨hxe,hS2⟩:=HS.out.read HH.out.2.2.2.2.2.2.2.2.1 HK
 obtain rfl:=hxe.symm
 have cc:w13.cell? ⟨h,9,none⟩=some (.int .i64 0):=by rw [cell_of_row _ _ _ _ _ _ hS2.own];rfl
 have ff:=froz hS2.own 9
 obtain ⟨N8,hN⟩:∃N,w13.setCell ⟨h,9,none⟩ (.int .i64 (ti:Int))=N:=⟨_,rfl⟩
 have hS3:=hS2.put 9 (.int .i64 (ti:Int))
 rw [hN] at hS3
 simp only [List.setIfInBounds_toArray,List.set_cons_zero,List.set_cons_succ] at hS3
 replace HS:=qA hS3
 clear hS3
 have hsm:ti<4294967296:=hx
 clear hS2 HK hx
 go_upto_region 13 with fail
 (try rw [hN])
 clear hN cc ff hsm
 go_wp2_with fail
 refine (zJ b 0 (qG bs) b8 32 0 N8 HS.out.rd (by omega)).mono ?_
 rintro e w14 ⟨x9,b9,e9,rfl,hx,HK⟩
 obtain ⟨hxe,hS2⟩:=HS.out.read HH.out.2.2.2.2.2.2.2.2.2 HK
 obtain rfl:=hxe.symm
 have cc:w14.cell? ⟨h,10,none⟩=some (.int .i64 0):=by rw [cell_of_row _ _ _ _ _ _ hS2.own];rfl
 have ff:=froz hS2.own 10
 obtain ⟨N9,hN⟩:∃N,w14.setCell ⟨h,10,none⟩ (.int .i64 (va:Int))=N:=⟨_,rfl⟩
 have hS3:=hS2.put 10 (.int .i64 (va:Int))
 rw [hN] at hS3
 simp only [List.setIfInBounds_toArray,List.set_cons_zero,List.set_cons_succ] at hS3
 replace HS:=qA hS3
 clear hS3
 have hsm:va<4294967296:=hx
 clear hS2 HK hx
 go_upto_region 14 with fail
 (try rw [hN])
 clear hN cc ff hsm
 obtain ⟨o0,o1,o2,o3,o4,o5,o6,o7,o8,o9,o10⟩:=rowcells11 HS.out.own
 go_wp2_with fail
 refine (qCK (kd:Int) (ct:Int) (na:Int) fi la 0 (co:Int) (ti:Int) (va:Int) (le:Int) (gr:Int) N9 (by omega) (by omega) (by omega) (by omega)).mono ?_
 rintro e wa ⟨rfl,Ba⟩
 have HSa:Hid (wa.heap[h]?=some (.cells #[.int .i64 (kd:Int),.int .i64 (ct:Int),.int .i64 (na:Int),.int .i64 fi,.int .i64 la,.int .u64 (le:Int),.int .u64 (gr:Int),.int .i64 0,.int .i64 (co:Int),.int .i64 (ti:Int),.int .i64 (va:Int)] 60 (0,0))∧wa.heap[g0]?=some (.cells #[.int .i64 0,.int .i64 0,.int .i64 0,.int .i64 0,.int .i64 0,.int .u64 0,.int .u64 0,.int .i64 0,.int .i64 0,.int .i64 0,.int .i64 0] 60 (0,0))∧Below g0 w wa):=by
  have hl:=qB HS.out.own
  have hl0:=qB HS.out.res
  exact ⟨by rw [Ba.block h hl];exact HS.out.own,by rw [Ba.block g0 hl0];exact HS.out.res,HS.out.bel.trans (Ba.mono (by omega))⟩
 have HNE:=qA HS.out.ne
 clear Ba HS o0 o1 o2 o3 o4 o5 o6 o7 o8 o9 o10
 have c7:wa.cell? ⟨h,7,none⟩=some (.int .i64 0):=by rw [cell_of_row _ _ _ _ _ _ HSa.out.1];rfl
 have f7:=froz HSa.out.1 7
 obtain ⟨W8,hW8⟩:∃W8,wa.setCell ⟨h,7,none⟩ (.int .i64 ((ti:Int)+(va:Int)+55))=W8:=⟨_,rfl⟩
 have HW8:Hid (W8.heap[h]?=some (.cells #[.int .i64 (kd:Int),.int .i64 (ct:Int),.int .i64 (na:Int),.int .i64 fi,.int .i64 la,.int .u64 (le:Int),.int .u64 (gr:Int),.int .i64 ((ti:Int)+(va:Int)+55),.int .i64 (co:Int),.int .i64 (ti:Int),.int .i64 (va:Int)] 60 (0,0))∧W8.heap[g0]?=some (.cells #[.int .i64 0,.int .i64 0,.int .i64 0,.int .i64 0,.int .i64 0,.int .u64 0,.int .u64 0,.int .i64 0,.int .i64 0,.int .i64 0,.int .i64 0] 60 (0,0))∧Below g0 w W8):=by
  rw [←hW8]
  refine ⟨?_,?_,qH HSa.out.2.2 _ _ _ (by have:=HNE.out;omega)⟩
  ·rw [heap_setCell_same _ _ _ _ _ _ HSa.out.1];simp
  ·rw [Below.heap_setCell _ _ _ _ (show g0≠h by have:=HNE.out;omega)];exact HSa.out.2.1
 go_upto_region 15 with fail
 (try rw [hW8])
 clear hW8 c7 f7 HSa
 obtain ⟨o0,o1,o2,o3,o4,o5,o6,o7,o8,o9,o10⟩:=rowcells11 HW8.out.1
 obtain ⟨z0,z1,z2,z3,z4,z5,z6,z7,z8,z9,z10⟩:=rowcells11 HW8.out.2.1
 have y0:=froz HW8.out.2.1 0
 have y1:=froz HW8.out.2.1 1
 have y2:=froz HW8.out.2.1 2
 have y3:=froz HW8.out.2.1 3
 have y4:=froz HW8.out.2.1 4
 have y5:=froz HW8.out.2.1 5
 have y6:=froz HW8.out.2.1 6
 have y7:=froz HW8.out.2.1 7
 have y8:=froz HW8.out.2.1 8
 have y9:=froz HW8.out.2.1 9
 have y10:=froz HW8.out.2.1 10
 have HFR:Hid ((((((((((((W8.setCell ⟨g0,0,none⟩ (.int .i64 (kd:Int))).setCell ⟨g0,1,none⟩ (.int .i64 (ct:Int))).setCell ⟨g0,2,none⟩ (.int .i64 (na:Int))).setCell ⟨g0,3,none⟩ (.int .i64 fi)).setCell ⟨g0,4,none⟩ (.int .i64 la)).setCell ⟨g0,5,none⟩ (.int .u64 (le:Int))).setCell ⟨g0,6,none⟩ (.int .u64 (gr:Int))).setCell ⟨g0,7,none⟩ (.int .i64 ((ti:Int)+(va:Int)+55))).setCell ⟨g0,8,none⟩ (.int .i64 (co:Int))).setCell ⟨g0,9,none⟩ (.int .i64 (ti:Int))).setCell ⟨g0,10,none⟩ (.int .i64 (va:Int))).heap[g0]?=some (.cells #[.int .i64 (kd:Int),.int .i64 (ct:Int),.int .i64 (na:Int),.int .i64 fi,.int .i64 la,.int .u64 (le:Int),.int .u64 (gr:Int),.int .i64 ((ti:Int)+(va:Int)+55),.int .i64 (co:Int),.int .i64 (ti:Int),.int .i64 (va:Int)] 60 (0,0))∧Below g0 w (((((((((((W8.setCell ⟨g0,0,none⟩ (.int .i64 (kd:Int))).setCell ⟨g0,1,none⟩ (.int .i64 (ct:Int))).setCell ⟨g0,2,none⟩ (.int .i64 (na:Int))).setCell ⟨g0,3,none⟩ (.int .i64 fi)).setCell ⟨g0,4,none⟩ (.int .i64 la)).setCell ⟨g0,5,none⟩ (.int .u64 (le:Int))).setCell ⟨g0,6,none⟩ (.int .u64 (gr:Int))).setCell ⟨g0,7,none⟩ (.int .i64 ((ti:Int)+(va:Int)+55))).setCell ⟨g0,8,none⟩ (.int .i64 (co:Int))).setCell ⟨g0,9,none⟩ (.int .i64 (ti:Int))).setCell ⟨g0,10,none⟩ (.int .i64 (va:Int)))):=⟨fP _ _ _ _ _ _ _ _ _ _ _ _ _ _ _ _ _ _ _ _ _ _ _ _ _ HW8.out.2.1,nS HW8.out.2.2 _ _ _ _ _ _ _ _ _ _ _ _ (Nat.le_refl _)⟩
 clear HW8
 go_wp2_with fail
 generalize (((((((((((W8.setCell ⟨g0,0,none⟩ (.int .i64 (kd:Int))).setCell ⟨g0,1,none⟩ (.int .i64 (ct:Int))).setCell ⟨g0,2,none⟩ (.int .i64 (na:Int))).setCell ⟨g0,3,none⟩ (.int .i64 fi)).setCell ⟨g0,4,none⟩ (.int .i64 la)).setCell ⟨g0,5,none⟩ (.int .u64 (le:Int))).setCell ⟨g0,6,none⟩ (.int .u64 (gr:Int))).setCell ⟨g0,7,none⟩ (.int .i64 ((ti:Int)+(va:Int)+55))).setCell ⟨g0,8,none⟩ (.int .i64 (co:Int))).setCell ⟨g0,9,none⟩ (.int .i64 (ti:Int))).setCell ⟨g0,10,none⟩ (.int .i64 (va:Int)))=WF at*
 obtain ⟨u0,u1,u2,u3,u4,u5,u6,u7,u8,u9,u10⟩:=rowcells11 HFR.out.1
 exact bodyPost_ret (v:= .agg (hdA kd ct na fi la le gr ((ti:Int)+(va:Int)+55) co ti va)) (by simp [results,Tryz.results47,go_sem,hdA,u0,u1,u2,u3,u4,u5,u6,u7,u8,u9,u10]) rfl ⟨rfl,by rw [HG.out];exact HFR.out.2⟩
end Go.Proofs.YtkpmalfigmimaaaGreatDoor
namespace Go.Proofs.YtkpmalfigmimaaaGreatDoor
open Go.RowKit
open M
theorem qBF (i a b:Nat) (h:b<2^i):(a*2^i)|||b=a*2^i+b:=by
 have:=Nat.two_pow_add_eq_or_of_lt h a
 rw [Nat.mul_comm a,this]
theorem qJS (c0 c1 c2 c3:Nat) (h0:c0<256) (h1:c1<256) (h2:c2<256) (h3:c3<256):bits BinOp.or IntKind.u32 (bits BinOp.or IntKind.u32 (bits BinOp.or IntKind.u32 ((c0:Int)*16777216) ((c1:Int)*65536)) ((c2:Int)*256)) (c3:Int)=((c0*16777216+c1*65536+c2*256+c3:Nat):Int):=by
 have e1:bits BinOp.or IntKind.u32 ((c0:Int)*16777216) ((c1:Int)*65536)=((c0*16777216+c1*65536:Nat):Int):=by
  have h:=u32_or_nat (c0*16777216) (c1*65536) (by omega) (by omega)
  have q:=qBF 24 c0 (c1*65536) (by show c1*65536<16777216;omega)
  rw [show (2:Nat)^24=16777216 from rfl] at q
  rw [q] at h
  rw [←h];simp
 have e2:bits BinOp.or IntKind.u32 ((c0*16777216+c1*65536:Nat):Int) ((c2:Int)*256)=((c0*16777216+c1*65536+c2*256:Nat):Int):=by
  have h:=u32_or_nat (c0*16777216+c1*65536) (c2*256) (by omega) (by omega)
  have q:=qBF 16 (c0*256+c1) (c2*256) (by show c2*256<65536;omega)
  rw [show (2:Nat)^16=65536 from rfl,show (c0*256+c1)*65536=c0*16777216+c1*65536 from by omega] at q
  rw [q] at h
  rw [←h];simp
 have e3:bits BinOp.or IntKind.u32 ((c0*16777216+c1*65536+c2*256:Nat):Int) (c3:Int)=((c0*16777216+c1*65536+c2*256+c3:Nat):Int):=by
  have h:=u32_or_nat (c0*16777216+c1*65536+c2*256) c3 (by omega) (by omega)
  have q:=qBF 8 (c0*65536+c1*256+c2) c3 (by show c3<256;omega)
  rw [show (2:Nat)^8=256 from rfl,show (c0*65536+c1*256+c2)*256=c0*16777216+c1*65536+c2*256 from by omega] at q
  rw [q] at h
  exact h
 rw [e1,e2,e3]
theorem qA8 (b o n cap:Nat) (bs:List Nat) (c0 c1 c2 c3:Nat) (w:World) (hn:bs.length=n) (hc:∀i,i<n→w.cell? ⟨b,o+i,none⟩=some (.int .u8 ((bs.getD i 0:Nat):Int))) (hb:∀n∈bs,n<256) (hl:n≤1000000000) (hcap:n+4≤cap) (h0:c0<256) (h1:c1<256) (h2:c2<256) (h3:c3<256)
  (d0:w.cell? ⟨b,o+n,none⟩=some (.int .u8 (c0:Int))) (d1:w.cell? ⟨b,o+(n+1),none⟩=some (.int .u8 (c1:Int))) (d2:w.cell? ⟨b,o+(n+2),none⟩=some (.int .u8 (c2:Int))) (d3:w.cell? ⟨b,o+(n+3),none⟩=some (.int .u8 (c3:Int))) (hT:nG w):
  Calls Tryz.prog 46 #[.slice (some ⟨b,o,none⟩) (n+4) cap] w fun e w'=>e= .returned (.tuple #[.slice (some ⟨b,o,none⟩) n cap,.bool (decide (qB2 bs=c0*16777216+c1*65536+c2*256+c3))])∧∃m,w'=w.drewN m:=by
 have r0:IntKind.u32.wrap (c0:Int)=(c0:Int):=by rw [IntKind.wrap_u32];omega
 have r1:IntKind.u32.wrap (c1:Int)=(c1:Int):=by rw [IntKind.wrap_u32];omega
 have r2:IntKind.u32.wrap (c2:Int)=(c2:Int):=by rw [IntKind.wrap_u32];omega
 have r3:IntKind.u32.wrap (c3:Int)=(c3:Int):=by rw [IntKind.wrap_u32];omega
 have HC:=qA hc
 have HT:=qA hT
 have HB:=qA hb
 have HN:=qA hn
 clear hc hT hb hn
 go_enter Tryz.func46,Tryz.ntmps46
 go_wp2_with fail
 go_quiet (fail)
 rw [qJS c0 c1 c2 c3 h0 h1 h2 h3]
 obtain ⟨X,hX⟩:∃X,c0*16777216+c1*65536+c2*256+c3=X:=⟨_,rfl⟩
 rw [hX]
 have HX:=qA hX
 clear hX d0 d1 d2 d3 r0 r1 r2 r3
 have HS:=qA (fun (w':World) (hw:w'.heap=w.heap)=>qC6 (.slice (some ⟨b,o,none⟩) n cap) bs w' (.inl (.inr ⟨b,o,cap,by rw [HN.out],fun i hi=>by rw [HN.out] at hi;rw [World.cell?_of_block (w:=w) (by rw [hw])];exact HC.out i hi⟩)) HB.out (by rw [HN.out];omega) (fun j hj=>by rw [World.cell?_of_block (w:=w) (by rw [hw])];exact HT.out j hj))
 obtain ⟨cs,hcs⟩:∃cs,qB2 bs=cs:=⟨_,rfl⟩
 rw [hcs] at HS
 have HCS:=qA hcs
 have hdd:Hid ((((cs:Int))==(X:Int))=decide (cs=X)):=by
  show _=_
  rw [Bool.eq_iff_iff,beq_iff_eq,decide_eq_true_iff];omega
 have hnc:n≤cap:=by omega
 clear hcs
 go_wp2_with fail
 go_quiet ((go_at_call 43;go_must (refine Calls.mono (HS.out _ ?_) ?_;rfl;rintro e2 w2 ⟨rfl,rfl⟩;exact ⟨rfl,_,rfl⟩)))
 go_wp2_with fail
 go_ret2
 refine ⟨?_,?_⟩
 ·rw [HCS.out,HX.out,←hdd.out];rfl
 ·exact ⟨_,World.drewN_drewN ..⟩
end Go.Proofs.YtkpmalfigmimaaaGreatDoor
