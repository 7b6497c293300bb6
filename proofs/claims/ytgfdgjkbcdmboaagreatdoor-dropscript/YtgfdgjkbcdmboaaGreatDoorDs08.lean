/- More calls of a slab, of things of type store.cell, as contracts: Hold, Drop. -/
import Derived.Test.YtgfdgjkbcdmboaaGreatDoorDs07
import Derived.Deep.RegionHeld2
namespace Go.Proofs.YtgfdgjkbcdmboaaGreatDoor
set_option maxHeartbeats 2000000
set_option maxRecDepth 20000
open Go.RowKit
theorem Zyh (g:Nat) (vp vf:Value) (room:Nat) (ps:List Pl) (fr:List Nat) (slot:Int) (w:World) (h:SlC w g vp vf room ps fr) (hv:Vac ps slot):Kc 142 #[.pointer (some ⟨g,0,none⟩),.int .i64 slot] w fun e w'=>e=.returned (.int .i64 7)∧w'=w:=by
 have HS:=Za h;have HV:=Za hv;clear h hv;go_enter Tryz.func142,Tryz.ntmps142
 go_wp2_with (go_at_call 150;refine (Zqs g vp vf room ps fr slot _ HS.out HV.out).mono ?_;rintro e w' ⟨rfl,rfl⟩)
 go_ret;exact ⟨rfl,rfl⟩
theorem Zue (g:Nat) (vp vf:Value) (room:Nat) (ps:List Pl) (fr:List Nat) (slot:Int) (i:Nat) (w:World) (h:SlC w g vp vf room ps fr) (hs:slot=(i:Int)+1) (hi:0<cnt ps i) (hc:cnt ps i=1073741824):Kc 142 #[.pointer (some ⟨g,0,none⟩),.int .i64 slot] w fun e w'=>e=.returned (.int .i64 4)∧w'=w:=by
 have HS:=Za h;have HI:=Za hi;have HE:=Za hs;have c2:=h.c2;obtain ⟨gp,c,rfl,c4,hil,j0,j1,hw,hm⟩:=h.at i hi;have HIL:=Za hil;have hle:=h.inv.most i;rw [hc] at c4;clear h hs hi hc hle;go_enter Tryz.func142,Tryz.ntmps142
 go_wp2_with (first
  |(go_at_call 150;refine (Zka g _ vf room ps fr slot i _ HS.out HE.out HI.out).mono ?_;rintro e w' ⟨rfl,rfl⟩))
 go_ret;exact ⟨rfl,rfl⟩
theorem Yco (g:Nat) (vp vf:Value) (room:Nat) (ps:List Pl) (fr:List Nat) (slot:Int) (i:Nat) (w:World) (h:SlC w g vp vf room ps fr) (hs:slot=(i:Int)+1) (hi:0<cnt ps i) (hc:cnt ps i<1073741824):Kc 142 #[.pointer (some ⟨g,0,none⟩),.int .i64 slot] w fun e w'=>e=.returned (.int .i64 0)∧TurnC w g (slB g vp vf) room (ps.set i (cnt ps i+1,thg ps i)) fr w':=by
 have HS:=Za h;have HI:=Za hi;have HE:=Za hs;have c2:=h.c2;obtain ⟨gp,c,rfl,c4,hil,j0,j1,hw,hm⟩:=h.at i hi;have HIL:=Za hil;have hle:=h.inv.most i;obtain ⟨q,hq⟩:∃q,q=cnt ps i:=⟨_,rfl⟩;rw [← hq] at c4 hle;have HQ:=Za hq;rw [← hq];have hne:((q:Int) == 1073741824)=false:=by simp;omega
 have f4:=Zfk h.pls (i * (71+1));have hw1:wrap64 ((q:Int)+1)=((q+1:Nat):Int):=by rw [Go.IntWalk.wrap64_in _ (by omega)];rfl
 have HC:Hid (q+1≤1073741824):=by show q+1≤1073741824;omega
 clear h hs hi hc hq hle;go_enter Tryz.func142,Tryz.ntmps142
 go_wp2_with (first
  |(go_at_call 150;refine (Zka g _ vf room ps fr slot i _ HS.out HE.out HI.out).mono ?_;rintro e w' ⟨rfl,rfl⟩))
 go_ret;have h:=HS.out;have hl2:=Zjg h.pls (i * (71+1)) (.int .i64 ((q+1:Nat):Int));rw [Zdz h.wid i (q+1) HIL.out] at hl2;have m2:Mod [gp] w' (w'.setCell ⟨gp,i * (71+1),none⟩ (.int .i64 ((q+1:Nat):Int))):=Mod.setCell _ _ _ _ (by simp);obtain ⟨t1,t2⟩:=h.wid.at i HIL.out;refine ⟨rfl,_,_,⟨h.toSmC.over m2 (ps':=ps.set i (q+1,thg ps i)) (by rw [List.length_set];exact hl2) (h.wid.set i _ _ t1 t2),h.inv.held HI.out (by omega) HC.out _⟩,m2.mono (fun k hk=>by simp at hk;exact Zag.2 (.inr (.inl (by rw [hk];rfl)))),New.refl _ _⟩
theorem Zui (g:Nat) (vp vf:Value) (room:Nat) (ps:List Pl) (fr:List Nat) (slot:Int) (i:Nat) (w:World) (h:SlC w g vp vf room ps fr) (hs:slot=(i:Int)+1) (hi:0<cnt ps i) (hc:1<cnt ps i):Kc 112 #[.pointer (some ⟨g,0,none⟩),.int .i64 slot] w fun e w'=>e=.returned (.tuple #[.bool false,.int .i64 0])∧TurnC w g (slB g vp vf) room (ps.set i (cnt ps i-1,thg ps i)) fr w':=by
 have HS:=Za h;have HI:=Za hi;have HE:=Za hs;have c2:=h.c2;obtain ⟨gp,c,rfl,c4,hil,j0,j1,hw,hm⟩:=h.at i hi;have HIL:=Za hil;have hle:=h.inv.most i;obtain ⟨q,hq⟩:∃q,q=cnt ps i:=⟨_,rfl⟩;rw [← hq] at c4 hle;have HQ:=Za hq;rw [← hq];obtain ⟨r,hr⟩:∃r,q=r+1:=⟨q-1,by omega⟩;subst hr;have f4:=Zfk h.pls (i * (71+1));have hw1:wrap64 (r:Int)=(r:Int):=Go.IntWalk.wrap64_in _ (by omega);have r0:(0:Int)<(r:Int):=by omega
 have c5:(w.setCell ⟨gp,i * (71+1),none⟩ (.int .i64 (r:Int))).cell? ⟨g,2,none⟩=some (.slice (some ⟨gp,0,none⟩) ps.length c):=by
  rw [Zju _ _ _ _ _ _ (fun e=>Zq h.pls h.blk Zlk (by rw [e];rfl))];exact c2
 have c6:(w.setCell ⟨gp,i * (71+1),none⟩ (.int .i64 (r:Int))).cell? ⟨gp,i * (71+1),none⟩=some (.int .i64 (r:Int)):=World.cell?_setCell_same' _ _ _ (by rw [c4];rfl);have HC:Hid (r≤1073741824∧0<r):=by show r≤1073741824∧0<r;omega
 clear h hs hi hc hq hle;go_enter Tryz.func112,Tryz.ntmps112
 go_wp2_with (first
  |(go_at_call 150;refine (Zka g _ vf room ps fr slot i _ HS.out HE.out HI.out).mono ?_;rintro e w' ⟨rfl,rfl⟩))
 go_ret2;have h:=HS.out;have hl2:=Zjg h.pls (i * (71+1)) (.int .i64 (r:Int));rw [Zdz h.wid i r HIL.out] at hl2;have m2:Mod [gp] w' (w'.setCell ⟨gp,i * (71+1),none⟩ (.int .i64 (r:Int))):=Mod.setCell _ _ _ _ (by simp);obtain ⟨t1,t2⟩:=h.wid.at i HIL.out;refine ⟨rfl,_,_,⟨h.toSmC.over m2 (ps':=ps.set i (r+1-1,thg ps i)) (by rw [List.length_set];exact hl2) (h.wid.set i _ _ t1 t2),h.inv.held HI.out (by have:=HC.out.2;omega) (by have:=HC.out.1;omega) _⟩,m2.mono (fun k hk=>by simp at hk;exact Zag.2 (.inr (.inl (by rw [hk];rfl)))),New.refl _ _⟩
theorem Yko:Value.agg Tryz.zeroCells184=Value.agg (Value.int .i64 0::zcl).toArray:=by kernel_rfl
theorem Zuj (g:Nat) (vp vf:Value) (room:Nat) (ps:List Pl) (fr:List Nat) (slot:Int) (i:Nat) (w:World) (h:SlC w g vp vf room ps fr) (hs:slot=(i:Int)+1) (hi:0<cnt ps i) (hc:cnt ps i=1):Kc 112 #[.pointer (some ⟨g,0,none⟩),.int .i64 slot] w fun e w'=>e=.returned (.tuple #[.bool true,.int .i64 0])∧TurnC w g (slB g vp vf) room (ps.set i (0,zcl)) (fr++[i+1]) w':=by
 have HS:=Za h;have HI:=Za hi;have HE:=Za hs;have c2:=h.c2;obtain ⟨gp,c,rfl,c4,hil,j0,j1,hw,hm⟩:=h.at i hi;have HIL:=Za hil;rw [hc] at c4;have f4:=Zfk h.pls (i * (71+1));have hl1:=Zjg h.pls (i * (71+1)) (.int .i64 0);have m1:Mod [gp] w (w.setCell ⟨gp,i * (71+1),none⟩ (.int .i64 0)):=Mod.setCell _ _ _ _ (by simp);have hfs:=Zdz h.wid i 0 hil;rw [show ((0:Nat):Int)=0 from rfl] at hfs;rw [hfs] at hl1;obtain ⟨t1,t2⟩:=h.wid.at i hil;have HM1:=Za (h.toSmC.over m1 (ps':=ps.set i (0,thg ps i)) (by rw [List.length_set];exact hl1) (h.wid.set i _ _ t1 t2));have HMd:=Za m1;have c5:=HM1.out.c2;have c6:(w.setCell ⟨gp,i * (71+1),none⟩ (.int .i64 0)).cell? ⟨gp,i * (71+1),none⟩=some (.int .i64 0):=World.cell?_setCell_same' _ _ _ (by rw [c4];rfl);have HL:=Za hl1;have HFR:Hid (fr.length+1≤65537):=by
  show fr.length+1≤65537;have:=h.inv.frlen;omega
 clear h hs hi hc hl1 m1 hfs t1 t2;go_enter Tryz.func112,Tryz.ntmps112
 go_wp2_with (first
  |(go_at_call 150;refine (Zka g _ vf room ps fr slot i _ HS.out HE.out HI.out).mono ?_;rintro e w' ⟨rfl,rfl⟩)
  |((with_reducible refine Zah 43 ?_);refine Zea _ rfl _ _ _ rfl 184 (71+1) ps.length c gp (i * (71+1)) (flatS (ps.set i (0,thg ps i))) (Value.int .i64 0::zcl) rfl Yko HL.out Zqz (by have:=Nat.mul_le_mul_right (71+1) (show i+1≤ps.length from HIL.out);rw [Nat.add_mul,Nat.one_mul] at this;exact this) Yab ?_;intro w2 hl2 m2 sz2;have hs2:=Zdy HM1.out.wid i 0 zcl (by rw [List.length_set];exact HIL.out) rfl;rw [show ((0:Nat):Int)=0 from rfl,List.set_set] at hs2;rw [hs2] at hl2;have HM2:=Za (HM1.out.over m2 (ps':=ps.set i (0,zcl)) (by rw [List.length_set];exact hl2) (HS.out.wid.set i _ _ rfl (fun u hu=>Yab u (by simp only [List.mem_cons];exact .inr (by simpa using hu)))));have HMd2:=Za m2;obtain ⟨a',c',rfl⟩:=Zo HM2.out.frs;have c7:=HM2.out.c3;clear hl2 m2 hs2 sz2)
  |(at_builtin;refine Zbx _ rfl _ _ _ rfl 3 1 8 Tryz.underlying30 Zak (by omega) _ fr.length (nats fr) rfl (Zgm HM2.out.frs (Zh _ _)) w2.heap.size [Value.int .i64 slot] rfl (Blk.new _ _ _) rfl (by intro u hu;simp at hu;subst hu;rfl) (by have:=HFR.out;simp only [maxLen];omega) (by have:=HFR.out;omega) ?_;intro v' w3 h3 g3 wh;obtain ⟨a2,c8,rfl⟩:=Zo h3;have hb3:=(HM2.out.blk.grow (Zh w2 (.cells #[Value.int .i64 slot] 3))).of_block (g3.block g (by have:=HM2.out.blk.lt;simp;omega) (fun e=>Zq HM2.out.frs HM2.out.blk Yao e.symm));have c9:w3.cell? ⟨g,3,none⟩=some (.slice a' fr.length c'):=(by rw [hb3.cell];rfl);have f9:=hb3.frozen 3))
 go_ret2;have hse:slot=((i+1:Nat):Int):=by rw [HE.out];rfl
 have hfr:Lst w3 3 1 (.slice a2 (fr.length+1) c8) (fr++[i+1]).length (nats (fr++[i+1])):=by
  rw [Zau,List.length_append,List.length_singleton,← hse];exact h3
 have hmA:Mod (slB g (.slice (some ⟨gp,0,none⟩) ps.length c) (.slice a' fr.length c')) w2 w3:=(Mod.alloc w2 _ _).trans' (Mod.of_grown g3 (fun k hk=>Zag.2 (.inr (.inr hk))));have hpl:Lst w3 184 (71+1) (.slice (some ⟨gp,0,none⟩) ps.length c) (ps.set i (0,zcl)).length (flatS (ps.set i (0,zcl))):=Zbh (Zgm HM2.out.pls (Zh _ _)) (Mod.of_grown g3 (S:=slB g (.slice none 0 0) (.slice a' fr.length c')) (fun k hk=>Zag.2 (.inr (.inr hk)))) (fun k hk hn=>by
  rcases Zag.1 hn with rfl | h | h
  ·exact Zq HM2.out.pls HM2.out.blk Zlk hk
  ·cases h
  ·exact Zjh HM2.out.pls HM2.out.frs Yff k hk h)
 have hgp:∀k∈[gp],k∈slB g (.slice (some ⟨gp,0,none⟩) ps.length c) (.slice a' fr.length c'):=fun k hk=>by
  simp at hk;exact Zag.2 (.inr (.inl (by rw [hk];rfl)))
 have hmB:=((HMd.out.mono hgp).trans' (HMd2.out.mono hgp)).trans' hmA;refine ⟨rfl,_,_,⟨Ylm hb3 rfl hpl hfr HM2.out.wid,HS.out.inv.drop HI.out _⟩,hmB.trans' (Mod.setCell _ _ _ _ (Zag.2 (.inl rfl))),Zlo (.inl rfl) ?_⟩;rcases wh with e | ⟨k,e,hk⟩
 ·exact .inl e
 ·refine .inr ⟨k,e,?_⟩;have h1:=HMd.out.size;have h2:=HMd2.out.size;simp at hk h1 h2;omega
theorem Yav:(Tryz.prog.info? 136).map (·.size)=some 71:=by kernel_rfl
theorem Zai:∀w,(zeroValue 136).run Tryz.prog w=.ok (.agg zcl.toArray) w:=zero_of_info (n:=71) (by kernel_rfl) |>.1
theorem Zcx (z:List Value) (hz:Th z):(Tryz.prog.info? 136).map (·.size)=some (z:List Value).length:=by rw [Zgx z hz];exact Yav
theorem Ylj (z:List Value) (hz:Th z):(Tryz.prog.info? 184).map (·.size)=some (Value.int .i64 1::(z:List Value)).length:=by rw [List.length_cons,Zgx z hz];exact Zqz
theorem Zkc (z:List Value) (hz:Th z):(zcl:List Value).toArray.size=(z:List Value).toArray.size:=by
 have:=Zgx z hz;rw [List.size_toArray,List.size_toArray,this];rfl
def plPlaces:Nat→Option (Nat×Nat):=fun i=>(#[(0,1),(1,71)]:Array (Nat×Nat))[i]?
theorem Zzr (ps:List (Nat×Value)):Tryz.prog.built 184 ps=Instr.fill plPlaces (Value.int .i64 0::zcl).toArray ps:=by kernel_rfl
theorem Zsm (z:List Value) (hz:Th z):Tryz.prog.built 184 [(0,.int .i64 1),(1,.agg z.toArray)]=some (Value.int .i64 1::z).toArray:=by
 rw [Zzr,Zbl plPlaces 0 0 1 _ [.int .i64 1] _ _ rfl rfl rfl (by simp),Zbl plPlaces 1 1 71 _ z _ _ rfl rfl hz.1 (by simp [zcl]),Instr.fill];congr 1
 simp [zcl]
theorem Zbw (o:Oper) (a:Act) (ty:TypeId) (parts:Array (Nat×Operand)) (ho:o.op=.build ty parts) (cs:Array Value) (h:Tryz.prog.built ty (parts.map fun (i,x)=>(i,a.eval x)).toList=some cs) (w:World):(execOp a.eval o).run Tryz.prog w=.ok (.value (.agg cs)) w:=by
 unfold execOp;simp only [ho,Sem.run_bind,run_build w ty _ cs h,Result.andThen_ok,Sem.run_pure]
theorem Zqw (s:Nat) (h:s≤65536):IntKind.i64.wrap (s:Int)=s:=by
 simp only [IntKind.wrap_i64];omega
theorem Zte (g:Nat) (vp vf:Value) (room:Nat) (ps:List Pl) (z:List Value) (hz:Th z) (w:World) (h:SlC w g vp vf room ps []) (hl:ps.length=room):Kc 146 #[.pointer (some ⟨g,0,none⟩),(.agg z.toArray)] w fun e w'=>e=.returned (.tuple #[.int .i64 0,.int .i64 9])∧Kb w w':=by
 have HS:Hid (∀w',Kb w w'→SlC w' g vp vf room ps []):=fun w' hb=>h.mod (Mod.of_below hb []) (fun _ _ h=>by cases h)
 have _:=hz.1;have HL:=Za hl;clear h hl;go_enter Tryz.func146,Tryz.ntmps146
 go_wp2_with (first
  |((with_reducible refine Zl 3 ?_);refine Zc _ rfl _ _ rfl _ rfl ?_;intro w1 b hb1 hl1 B1 b1;have c0:=(HS.out _ b1).c0;clear hb1 hl1)
  |(go_at_call 136;refine (Zcn g _ c0).mono ?_;rintro e w' ⟨rfl,hx⟩;rw [hx];clear hx w')
  |(go_at_call 186;refine (Zvd g vp vf room ps _ (HS.out _ b1).toSmC HL.out).mono ?_;rintro e w2 ⟨rfl,b2⟩))
 go_ret2;exact ⟨rfl,Zb b1 b2⟩
theorem Ztf (g:Nat) (vp vf:Value) (room:Nat) (ps:List Pl) (fr:List Nat) (s:Nat) (z:List Value) (hz:Th z) (w:World) (h:SlC w g vp vf room ps (fr++[s])):Kc 146 #[.pointer (some ⟨g,0,none⟩),(.agg z.toArray)] w fun e w'=>e=.returned (.tuple #[.int .i64 (s:Int),.int .i64 0])∧TurnC w g (slB g vp vf) room (ps.set (s-1) (1,z)) fr w':=by
 have HS:Hid (∀w',Kb w w'→SlC w' g vp vf room ps (fr++[s])):=fun w' hb=>h.mod (Mod.of_below hb []) (fun _ _ h=>by cases h)
 obtain ⟨q1,q2,q3⟩:=h.inv.free s (by simp);obtain ⟨i,rfl⟩:∃i,s=i+1:=⟨s-1,by omega⟩;have hil:i<ps.length:=by omega
 have h1:=h.inv.len;have h2:=h.inv.r2;have h3:=h.inv.frlen;have HF:Hid (fr.length≤65536):=by show fr.length≤65536;simp at h3;omega
 have hi6:i≤65536:=by omega
 have HW2:=Za (Zqw i hi6);have HINV:=Za h.inv;have HLT:Hid (∀k∈slB g vp vf,k<w.heap.size):=fun k hk=>by
  rcases Zag.1 hk with rfl | hk | hk
  ·exact h.blk.lt
  ·exact Zep h.pls k hk
  ·exact Zep h.frs k hk
 obtain ⟨gp,c,rfl,_⟩:=Zbg h.pls (by omega);have j0:(0:Int)≤(i:Int):=by omega
 have j1:(i:Int)<(ps.length:Int):=by omega
 have hw:wrap64 (i:Int)=i:=Go.IntWalk.wrap64_in _ (by omega);have HI:=Za hil;clear h q1 q2 q3 h1 h2 h3 hi6;go_enter Tryz.func146,Tryz.ntmps146
 go_wp2_with (first
  |((with_reducible refine Zl 3 ?_);refine Zc _ rfl _ _ rfl _ rfl ?_;intro wx b hbx hlx Bx bx;have c0:=(HS.out _ bx).c0;have HBx:=Za Bx;have Hbx:=Za bx;have Hgb:=Za hbx;clear hbx hlx Bx bx)
  |(go_at_call 136;refine (Zcn g _ c0).mono ?_;rintro e w' ⟨rfl,hx⟩;rw [hx];clear hx w')
  |(go_at_call 186;refine (Zve g _ vf room ps fr (i+1) _ (HS.out _ Hbx.out).toSmC HF.out).mono ?_;rintro e w1 ⟨vf',rfl,hm1,m1,ob⟩;have HM1:=Za hm1;have Hm1:=Za m1;have Hob:=Za ob;clear hm1 m1 c0 ob))
 have hgne:b≠g:=by
  have:=HLT.out g (Zag.2 (.inl rfl));have:=Hgb.out;omega
 have hpne:b≠gp:=by
  have:=HLT.out gp (Zag.2 (.inr (.inl rfl)));have:=Hgb.out;omega
 have hB1:Blk w1 b 136 (z).toArray:=HBx.out.mod Hm1.out (by simpa using hgne);have HMd:=Za (HM1.out.mod (w':=w1.drew) (Mod.drew [] _) (fun _ _ h=>by cases h));have HS0:Hid (w1.drew.cell? ⟨g,2,none⟩=some (.slice (some ⟨gp,0,none⟩) ps.length c)∧w1.drew.rangeAt b 0 z):=⟨HMd.out.c2,hB1.drew.range⟩;have HSK:Hid (∀w2,Mod [gp] w1.drew w2→w2.cell? ⟨g,2,none⟩=some (.slice (some ⟨gp,0,none⟩) ps.length c)∧w2.rangeAt b 0 z):=fun w2 m2=>
  ⟨by rw [(HMd.out.blk.mod m2 (fun e=>Zq HMd.out.pls HMd.out.blk Zlk (by simp at e;rw [e];rfl))).cell];rfl,(hB1.drew.mod m2 (by simpa using hpne)).range⟩
 clear hB1 hgne hpne;refine wp_region_held_drew (S:=fun w'=>w'.cell? ⟨g,2,none⟩=some (.slice (some ⟨gp,0,none⟩) ps.length c)∧w'.rangeAt b 0 z) (by kernel_rfl) (HS0.out) (fun hHeld=>?_);refine tkp 0 (.pointer (some ⟨g,0,none⟩)) hHeld ?_;simp only [zq];refine tkp 1 (.pointer (some ⟨g,0,none⟩)) hHeld ?_;simp only [zq];refine tkp 2 (.pointer (some ⟨g,2,none⟩)) hHeld ?_;simp only [zq];refine tkg 3 (.slice (some ⟨gp,0,none⟩) ps.length c) rfl (Or.inl ⟨by rfl,fun w hS=>by (have q1:=hS.1;go_simp)⟩) hHeld ?_;simp only [zq];refine tkp 4 (.int .i64 ((i:Int)+1)) hHeld ?_;simp only [zq];refine tkg 5 (.int .i64 (i:Int)) rfl (Or.inl ⟨by rfl,fun w hS=>by (go_simp;exact HW2.out)⟩) hHeld ?_;simp only [zq];refine tkg 6 ((.agg z.toArray)) rfl (yieldsIf_load_mid rfl 136 (.tmp 3) rfl b 0 rfl z _ (fun w hS=>hS.2) Tryz.underlying136 rfl (Zcx z hz)) hHeld ?_;simp only [zq];refine tkg 7 (.agg (Value.int .i64 1::z).toArray) rfl (Or.inl ⟨by rfl,fun w hS=>Zbw _ _ 184 _ (by rfl) _ (by rw [List.map_toArray];exact Zsm z hz) w⟩) hHeld ?_;simp only [zq];refine tkp 8 (.pointer (some ⟨gp,i * (71+1),none⟩)) hHeld ?_;simp only [zq];refine wpAnyH_ready (rs:=[9]) (by kernel_rfl) (by simp) ?_;refine AllReadyH.cons rfl (fun KQ hK=>?_) AllReadyH.nil;refine Zid _ rfl _ _ _ rfl 184 (71+1) ps.length c gp (i * (71+1)) (flatS ps) (Value.int .i64 1::z) rfl rfl (HMd.out.pls) (Ylj z hz) (by have:=Nat.mul_le_mul_right (71+1) (show i+1≤ps.length from HI.out);rw [Nat.add_mul,Nat.one_mul] at this;rw [List.length_cons,Zgx z hz];exact this) (Zuw z hz 1) ?_;intro w2 hl2 m2 sz2;have hSB:=HSK.out _ m2;refine hK.out _ _ hSB (fun hHeld=>?_);clear hK KQ;refine wpAnyH_done (by kernel_rfl) ?_ _;go_wp2
 go_ret2;have hi:=HI.out;have hs:=Zdy HMd.out.wid i 1 z hi (Zgx z hz);rw [show ((1:Nat):Int)=1 from rfl] at hs;rw [hs] at hl2;refine ⟨rfl,_,_,⟨HMd.out.over m2 (ps':=ps.set i (1,z)) (by rw [List.length_set];exact hl2) (HMd.out.wid.set i 1 _ (Zgx z hz) (fun u hu=>Zuw z hz 1 u (by simp only [List.mem_cons];exact .inr (by simpa using hu)))),HINV.out.takeFree _⟩,?_,Zlo (.inl rfl) (.inl Hob.out)⟩;exact ((Mod.of_below Hbx.out _).trans' (Hm1.out.mono (fun k hk=>by simp at hk;exact Zag.2 (.inl hk)))).trans' ((Mod.drew _ _).trans' (m2.mono (fun k hk=>by simp at hk;exact Zag.2 (.inr (.inl (by rw [hk];rfl))))))
theorem Zvm (g:Nat) (vp vf:Value) (room:Nat) (ps:List Pl) (z:List Value) (hz:Th z) (w:World) (h:SlC w g vp vf room ps []) (hl:ps.length<room):Kc 146 #[.pointer (some ⟨g,0,none⟩),(.agg z.toArray)] w fun e w'=>e=.returned (.tuple #[.int .i64 ((ps.length+1:Nat):Int),.int .i64 0])∧TurnC w g (slB g vp vf) room (ps++[(1,z)]) [] w':=by
 have HS:Hid (∀w',Kb w w'→SlC w' g vp vf room ps []):=fun w' hb=>h.mod (Mod.of_below hb []) (fun _ _ h=>by cases h)
 have h2:=h.inv.r2;have HR:=Za h2;obtain ⟨i,hi⟩:∃i,i=ps.length:=⟨_,rfl⟩;have j0:(0:Int)≤(i:Int):=by omega
 have j1:(i:Int)<((i+1:Nat):Int):=by omega
 have hw:wrap64 (i:Int)=i:=Go.IntWalk.wrap64_in _ (by omega);have hi6:i≤65536:=by omega
 have HW2:=Za (Zqw i hi6);have HI:=Za hi;have HL:=Za hl;have HINV:=Za h.inv;have HLT:Hid (∀k∈slB g vp vf,k<w.heap.size):=fun k hk=>by
  rcases Zag.1 hk with rfl | hk | hk
  ·exact h.blk.lt
  ·exact Zep h.pls k hk
  ·exact Zep h.frs k hk
 have HWd:=Za h.wid;have HE:Hid (∀w,Kc 186 #[.pointer (some ⟨g,0,none⟩)] w (fun e w'=>∃vp',e=.returned (.tuple #[.int .i64 ((ps.length+1:Nat):Int),.bool true])∧SmC w' g vp' vf room (ps++[(0,zcl)]) []∧Mod (slB g vp vf) w w'∧WhereL w vp vp')→Kc 186 #[.pointer (some ⟨g,0,none⟩)] w (fun e w'=>∃gp c,e=.returned (.tuple #[.int .i64 ((i+1:Nat):Int),.bool true])∧SmC w' g (.slice (some ⟨gp,0,none⟩) (i+1) c) vf room (ps++[(0,zcl)]) []∧Mod (slB g vp vf) w w'∧WhereL w vp (.slice (some ⟨gp,0,none⟩) (i+1) c))):=by
  intro w hc;refine hc.mono ?_;rintro e w' ⟨vp',rfl,hm,m,wh⟩;obtain ⟨gp,c,rfl,_⟩:=Zbg hm.pls (by simp);rw [show (ps++[((0,zcl):Pl)]).length=i+1 by simp [hi]] at hm wh;exact ⟨gp,c,by rw [hi],hm,m,wh⟩
 clear h h2 hl hi hi6;go_enter Tryz.func146,Tryz.ntmps146
 go_wp2_with (first
  |((with_reducible refine Zl 3 ?_);refine Zc _ rfl _ _ rfl _ rfl ?_;intro wx b hbx hlx Bx bx;have c0:=(HS.out _ bx).c0;have HBx:=Za Bx;have Hbx:=Za bx;have Hgb:=Za hbx;have Hlb:=Za hlx;clear hbx hlx Bx bx)
  |(go_at_call 136;refine (Zcn g _ c0).mono ?_;rintro e w' ⟨rfl,hx⟩;rw [hx];clear hx w')
  |(go_at_call 186;refine (HE.out _ (Yaf g vp vf room ps _ (HS.out _ Hbx.out).toSmC HL.out HR.out)).mono ?_;rintro e w1 ⟨gp,c,rfl,hm1,m1,wh⟩;have HM1:=Za hm1;have Hm1:=Za m1;have Hwh:=Za wh;clear hm1 m1 c0 wh))
 have hbS:b ∉ slB g vp vf:=fun e=>by
  have:=HLT.out b e;have:=Hgb.out;omega
 have hpne:b≠gp:=by
  rcases Hwh.out with e | ⟨q,e,hq⟩
  ·intro e2;exact hbS (Zag.2 (.inr (.inl (by rw [← e,e2];rfl))))
  ·simp only [Value.ownBlock,Option.some.injEq] at e;have:=Hlb.out;omega
 have hB1:Blk w1 b 136 (z).toArray:=HBx.out.mod Hm1.out hbS;have HMd:=Za (HM1.out.mod (w':=w1.drew) (Mod.drew [] _) (fun _ _ h=>by cases h));have HS0:Hid (w1.drew.cell? ⟨g,2,none⟩=some (.slice (some ⟨gp,0,none⟩) (i+1) c)∧w1.drew.rangeAt b 0 z):=⟨HMd.out.c2,hB1.drew.range⟩;have HSK:Hid (∀w2,Mod [gp] w1.drew w2→w2.cell? ⟨g,2,none⟩=some (.slice (some ⟨gp,0,none⟩) (i+1) c)∧w2.rangeAt b 0 z):=fun w2 m2=>
  ⟨by rw [(HMd.out.blk.mod m2 (fun e=>Zq HMd.out.pls HMd.out.blk Zlk (by simp at e;rw [e];rfl))).cell];rfl,(hB1.drew.mod m2 (by simpa using hpne)).range⟩
 clear hB1 hpne;refine wp_region_held_drew (S:=fun w'=>w'.cell? ⟨g,2,none⟩=some (.slice (some ⟨gp,0,none⟩) (i+1) c)∧w'.rangeAt b 0 z) (by kernel_rfl) (HS0.out) (fun hHeld=>?_);refine tkp 0 (.pointer (some ⟨g,0,none⟩)) hHeld ?_;simp only [zq];refine tkp 1 (.pointer (some ⟨g,0,none⟩)) hHeld ?_;simp only [zq];refine tkp 2 (.pointer (some ⟨g,2,none⟩)) hHeld ?_;simp only [zq];refine tkg 3 (.slice (some ⟨gp,0,none⟩) (i+1) c) rfl (Or.inl ⟨by rfl,fun w hS=>by (have q1:=hS.1;go_simp)⟩) hHeld ?_;simp only [zq];refine tkp 4 (.int .i64 ((i:Int)+1)) hHeld ?_;simp only [zq];refine tkg 5 (.int .i64 (i:Int)) rfl (Or.inl ⟨by rfl,fun w hS=>by (go_simp;exact HW2.out)⟩) hHeld ?_;simp only [zq];refine tkg 6 ((.agg z.toArray)) rfl (yieldsIf_load_mid rfl 136 (.tmp 3) rfl b 0 rfl z _ (fun w hS=>hS.2) Tryz.underlying136 rfl (Zcx z hz)) hHeld ?_;simp only [zq];refine tkg 7 (.agg (Value.int .i64 1::z).toArray) rfl (Or.inl ⟨by rfl,fun w hS=>Zbw _ _ 184 _ (by rfl) _ (by rw [List.map_toArray];exact Zsm z hz) w⟩) hHeld ?_;simp only [zq];refine tkg 8 (.pointer (some ⟨gp,i * (71+1),none⟩)) rfl (Or.inl ⟨by rfl,fun w hS=>by (go_simp;intro h8;omega)⟩) hHeld ?_;simp only [zq];refine wpAnyH_ready (rs:=[9]) (by kernel_rfl) (by simp) ?_;refine AllReadyH.cons rfl (fun KQ hK=>?_) AllReadyH.nil;refine Zid _ rfl _ _ _ rfl 184 (71+1) (i+1) c gp (i * (71+1)) (flatS (ps++[(0,zcl)])) (Value.int .i64 1::z) rfl rfl (by have:=HMd.out.pls;rw [List.length_append,List.length_singleton,← HI.out] at this;exact this) (Ylj z hz) (by rw [Nat.add_mul,List.length_cons,Zgx z hz];omega) (Zuw z hz 1) ?_;intro w2 hl2 m2 sz2;have hSB:=HSK.out _ m2;refine hK.out _ _ hSB (fun hHeld=>?_);clear hK KQ;refine wpAnyH_done (by kernel_rfl) ?_ _;go_wp2
 go_ret2;have hi:=HI.out;have hs:=Zdy HMd.out.wid i 1 z (by simp;omega) (Zgx z hz);rw [show ((1:Nat):Int)=1 from rfl] at hs;rw [hs,hi,Ybb] at hl2;rw [hi] at Hwh HMd;have hwh:=Hwh.out;have hwS:WhereL w vp (.slice (some ⟨gp,0,none⟩) (ps.length+1) c):=by
  rcases hwh with e | ⟨q,e,hq⟩
  ·exact .inl e
  ·exact .inr ⟨q,e,by have:=Hbx.out.size;omega⟩
 refine ⟨by rw [hi];rfl,_,_,⟨HMd.out.over m2 (ps':=ps++[(1,z)]) (by simpa using hl2) (HWd.out.snoc 1 _ (Zgx z hz) (fun u hu=>Zuw z hz 1 u (by simp only [List.mem_cons];exact .inr (by simpa using hu)))),HINV.out.takeNew HL.out _⟩,?_,Zlo hwS (.inl rfl)⟩;exact (((Mod.of_below Hbx.out _).trans' Hm1.out).trans' (Mod.drew _ _)).trans (Zlo (g:=g) hwS (.inl rfl)) (m2.mono (fun k hk=>by simp at hk;exact Zag.2 (.inr (.inl (by rw [hk];rfl)))))
theorem Yhb (g:Nat) (vp vf:Value) (room:Nat) (ps:List Pl) (fr:List Nat) (slot:Int) (i:Nat) (z:List Value) (hz:Th z) (w:World) (h:SlC w g vp vf room ps fr) (hs:slot=(i:Int)+1) (hi:0<cnt ps i) (ht:thg ps i=z):Kc 149 #[.pointer (some ⟨g,0,none⟩),.int .i64 slot] w fun e w'=>e=.returned (.tuple #[(.agg z.toArray),.int .i64 0])∧Kb w w':=by
 have HS:Hid (∀w',Kb w w'→SlC w' g vp vf room ps fr):=fun w' hb=>h.mod (Mod.of_below hb []) (fun _ _ h=>by cases h)
 have HI:=Za hi;have HE:=Za hs;have HTh:=Za ht;obtain ⟨gp,c,rfl,_,hil,j0,j1,hw,hm⟩:=h.at i hi;have HIL:=Za hil;have HRg:Hid (∀w',Kb w w'→w'.rangeAt gp (i * (71+1)+1) z):=by
  intro w' hb j u hu;have hsl:=HS.out _ hb;have hj:j<71:=by have:=(List.getElem?_eq_some_iff.1 hu).1;rwa [Zgx z hz] at this
  rw [Zcd hsl.pls _ (by have:=Nat.mul_le_mul_right (71+1) (show i+1≤ps.length from hil);rw [Nat.add_mul] at this;omega)];exact Zqj hsl.wid i hil j u (by rw [HTh.out];exact hu)
 clear h hs hi ht;go_enter Tryz.func149,Tryz.ntmps149
 go_wp2_with (first
  |((with_reducible refine Zw 4 ?_);refine Zf _ rfl _ rfl _ Zai ?_;intro w1 b4 hg1 hl1 B1 b1;have c2:=(HS.out _ b1).c2;have HB1:=Za B1;have Hg1:=Za hg1;clear B1 hg1 hl1)
  |(go_at_call 150;refine (Zka g _ vf room ps fr slot i _ (HS.out _ b1) HE.out HI.out).mono ?_;rintro e w' ⟨rfl,hx⟩;rw [hx];clear hx w')
  |((with_reducible refine Zk 26 25 ?_);refine wpList_load_mid rfl _ _ rfl gp (i * (71+1)+1) rfl z _ (HRg.out _ b1) Tryz.underlying136 rfl (Zcx z hz) ?_)
  |((with_reducible refine Zah 4 ?_);refine Zg _ rfl _ _ _ rfl b4 _ (z).toArray rfl rfl HB1.out (Zcx z hz) (Zkc z hz) (all_oneCell_toArray (fun u hu=>Zuw z hz 1 u (by simp only [List.mem_cons];exact .inr (by simpa using hu)))) ?_;intro w2 B2 g2))
 exact bodyPost_ret (v:=.tuple #[(.agg z.toArray),.int .i64 0]) (Zew rfl _ _ b4 _ _ rfl rfl B2 Tryz.underlying136 (Zcx z hz)) rfl ⟨rfl,Ze b1 g2 Hg1.out⟩
theorem Ycq (g:Nat) (vp vf:Value) (room:Nat) (ps:List Pl) (fr:List Nat) (slot:Int) (w:World) (h:SlC w g vp vf room ps fr) (hv:Vac ps slot):Kc 149 #[.pointer (some ⟨g,0,none⟩),.int .i64 slot] w fun e w'=>e=.returned (.tuple #[(.agg zcl.toArray),.int .i64 7])∧Kb w w':=by
 have HS:Hid (∀w',Kb w w'→SlC w' g vp vf room ps fr):=fun w' hb=>h.mod (Mod.of_below hb []) (fun _ _ h=>by cases h)
 have HV:=Za hv;clear h hv;go_enter Tryz.func149,Tryz.ntmps149
 go_wp2_with (first
  |((with_reducible refine Zw 4 ?_);refine Zf _ rfl _ rfl _ Zai ?_;intro w1 b4 hg1 hl1 B1 b1;have HB1:=Za B1;have Hg1:=Za hg1;have Hl1:=Za hl1;clear B1 hg1 hl1)
  |(go_at_call 150;refine (Zqs g _ vf room ps fr slot _ (HS.out _ b1) HV.out).mono ?_;rintro e w' ⟨rfl,hx⟩;rw [hx];clear hx w')
  |((with_reducible refine Zw 8 ?_);refine Zf _ rfl _ rfl _ Zai ?_;intro w2 b8 hg2 hl2 B2 b2;have HB2:=Za B2;have HB1':=Za (HB1.out.grow b2);have Hb2:=Za b2;have hne:b4≠b8:=(by have:=Hl1.out;omega);clear B2 hg2 hl2 b2)
  |((with_reducible refine Zk 17 8 ?_);refine wpList_load_mid rfl _ _ rfl b8 0 rfl zcl _ HB2.out.range Tryz.underlying136 rfl (Zcx zcl Zqv) ?_)
  |((with_reducible refine Zah 4 ?_);refine Zg _ rfl _ _ _ rfl b4 _ zcl.toArray rfl rfl HB1'.out (Zcx zcl Zqv) rfl (all_oneCell_toArray Zqv.2) ?_;intro w3 B3 g3))
 exact bodyPost_ret (v:=.tuple #[(.agg zcl.toArray),.int .i64 7]) (Zew rfl _ _ b4 _ _ rfl rfl B3 Tryz.underlying136 (Zcx zcl Zqv)) rfl ⟨rfl,Ze (Zb b1 Hb2.out) g3 Hg1.out⟩
theorem Yfi (g:Nat) (vp vf:Value) (room:Nat) (ps:List Pl) (fr:List Nat) (slot:Int) (i:Nat) (z:List Value) (hz:Th z) (w:World) (h:SlC w g vp vf room ps fr) (hs:slot=(i:Int)+1) (hi:0<cnt ps i):Kc 189 #[.pointer (some ⟨g,0,none⟩),.int .i64 slot,(.agg z.toArray)] w fun e w'=>e=.returned (.int .i64 0)∧TurnC w g (slB g vp vf) room (ps.set i (cnt ps i,z)) fr w':=by
 have HS:Hid (∀w',Kb w w'→SlC w' g vp vf room ps fr):=fun w' hb=>h.mod (Mod.of_below hb []) (fun _ _ h=>by cases h)
 have HI:=Za hi;have HE:=Za hs;have HLE:=Za (h.inv.most i);have HINV:=Za h.inv;have HLT:Hid (∀k∈slB g vp vf,k<w.heap.size):=fun k hk=>by
  rcases Zag.1 hk with rfl | hk | hk
  ·exact h.blk.lt
  ·exact Zep h.pls k hk
  ·exact Zep h.frs k hk
 obtain ⟨gp,c,rfl,_,hil,j0,j1,hw,hm⟩:=h.at i hi;have HIL:=Za hil;clear h hs hi;go_enter Tryz.func189,Tryz.ntmps189
 go_wp2_with (first
  |((with_reducible refine Zl 5 ?_);refine Zc _ rfl _ _ rfl _ rfl ?_;intro wx b hbx hlx Bx bx;have HBx:=Za Bx;have Hbx:=Za bx;have Hgb:=Za hbx;clear hbx hlx Bx bx)
  |(go_at_call 150;refine (Zka g _ vf room ps fr slot i _ (HS.out _ Hbx.out) HE.out HI.out).mono ?_;rintro e w' ⟨rfl,hx⟩;rw [hx];clear hx w'))
 have hgne:b≠g:=by
  have:=HLT.out g (Zag.2 (.inl rfl));have:=Hgb.out;omega
 have hpne:b≠gp:=by
  have:=HLT.out gp (Zag.2 (.inr (.inl rfl)));have:=Hgb.out;omega
 have hB1:Blk wx b 136 (z).toArray:=HBx.out;have HMd:=Za ((HS.out _ Hbx.out).toSmC.mod (w':=wx.drew) (Mod.drew [] _) (fun _ _ h=>by cases h));have HS0:Hid (wx.drew.cell? ⟨g,2,none⟩=some (.slice (some ⟨gp,0,none⟩) ps.length c)∧wx.drew.rangeAt b 0 z):=⟨HMd.out.c2,hB1.drew.range⟩;have HSK:Hid (∀w2,Mod [gp] wx.drew w2→w2.cell? ⟨g,2,none⟩=some (.slice (some ⟨gp,0,none⟩) ps.length c)∧w2.rangeAt b 0 z):=fun w2 m2=>
  ⟨by rw [(HMd.out.blk.mod m2 (fun e=>Zq HMd.out.pls HMd.out.blk Zlk (by simp at e;rw [e];rfl))).cell];rfl,(hB1.drew.mod m2 (by simpa using hpne)).range⟩
 clear hB1 hgne hpne;refine wp_region_held_drew (S:=fun w'=>w'.cell? ⟨g,2,none⟩=some (.slice (some ⟨gp,0,none⟩) ps.length c)∧w'.rangeAt b 0 z) (by kernel_rfl) (HS0.out) (fun hHeld=>?_);refine tkp 0 (.pointer (some ⟨g,0,none⟩)) hHeld ?_;simp only [zq];refine tkp 1 (.pointer (some ⟨g,0,none⟩)) hHeld ?_;simp only [zq];refine tkp 2 (.pointer (some ⟨g,2,none⟩)) hHeld ?_;simp only [zq];refine tkg 3 (.slice (some ⟨gp,0,none⟩) ps.length c) rfl (Or.inl ⟨by rfl,fun w hS=>by (have q1:=hS.1;go_simp)⟩) hHeld ?_;simp only [zq];refine tkp 4 (.int .i64 (i:Int)) hHeld ?_;simp only [zq];refine tkg 5 ((.agg z.toArray)) rfl (yieldsIf_load_mid rfl 136 (.tmp 5) rfl b 0 rfl z _ (fun w hS=>hS.2) Tryz.underlying136 rfl (Zcx z hz)) hHeld ?_;simp only [zq];refine tkp 6 (.pointer (some ⟨gp,i * (71+1),none⟩)) hHeld ?_;simp only [zq];refine tkp 7 (.pointer (some ⟨gp,i * (71+1)+1,none⟩)) hHeld ?_;simp only [zq];refine wpAnyH_ready (rs:=[8]) (by kernel_rfl) (by simp) ?_;refine AllReadyH.cons rfl (fun KQ hK=>?_) AllReadyH.nil;refine Zid _ rfl _ _ _ rfl 184 (71+1) ps.length c gp (i * (71+1)+1) (flatS ps) z rfl rfl (HMd.out.pls) (Zcx z hz) (by have:=Nat.mul_le_mul_right (71+1) (show i+1≤ps.length from HIL.out);rw [Nat.add_mul,Nat.one_mul] at this;rw [Zgx z hz];omega) (hz.2) ?_;intro w2 hl2 m2 sz2;have hSB:=HSK.out _ m2;refine hK.out _ _ hSB (fun hHeld=>?_);clear hK KQ;refine wpAnyH_done (by kernel_rfl) ?_ _;go_wp2
 go_ret;have hs2:=Zkf HMd.out.wid i z HIL.out (Zgx z hz);rw [hs2] at hl2;refine ⟨rfl,_,_,⟨HMd.out.over m2 (ps':=ps.set i (cnt ps i,z)) (by rw [List.length_set];exact hl2) (HMd.out.wid.set i _ _ (Zgx z hz) hz.2),HINV.out.held HI.out HI.out HLE.out _⟩,?_,New.refl _ _⟩;exact (Mod.of_below Hbx.out _).trans' ((Mod.drew _ _).trans' (m2.mono (fun k hk=>by simp at hk;exact Zag.2 (.inr (.inl (by rw [hk];rfl))))))
theorem Zvs (g:Nat) (vp vf:Value) (room:Nat) (ps:List Pl) (fr:List Nat) (w:World) (h:SlC w g vp vf room ps fr):Kc 81 #[.pointer (some ⟨g,0,none⟩)] w fun e w'=>∃a c,e=.returned (.slice a (slotsOf ps).length c)∧w'.ownsRow w.heap.size 3 1 (.slice a (slotsOf ps).length c) (slotsOf ps).length (nats (slotsOf ps))∧Kb w w':=by
 have c0:=h.c0;have HS:=Za h;have hl:=h.inv.len;have hr:=h.inv.r2;have hs:=h.inv.sum;have ho:occs ps≤65536:=by omega
 have hp:ps.length≤65536:=by omega
 clear h hl hr hs;go_enter Tryz.func81,Tryz.ntmps81
 go_wp2_with (first
  |(go_at_call 136;refine (Zcn g _ c0).mono ?_;rintro e w' ⟨rfl,hx⟩;rw [hx];clear hx w')
  |(go_at_call 80;refine (Zxx g vp vf room ps fr _ HS.out).mono ?_;rintro e w1 ⟨rfl,b1⟩;have HS1:=Za (HS.out.mod (Mod.of_below b1 []) (fun _ _ h=>(by cases h)));have c2:=HS1.out.c2;obtain ⟨pa,pc,rfl⟩:=Zo HS1.out.pls)
  |(at_make;refine Zsx _ rfl _ _ _ 3 Tryz.underlying30 (.int .i64 0) 8 ⟨_,rfl,rfl,rfl,rfl⟩ rfl rfl _ _ _ _ 0 (occs ps) rfl rfl rfl rfl (by omega) (by omega) (by omega) ?_;intro w2 o2 bb2 _;have hcc:=HS1.out.c2;have c2':=Zz bb2 hcc;clear hcc))
 have hb2:Kb w w2:=b1.trans (bb2.mono b1.size);have HO:Hid (w2.ownsRow w.heap.size 3 1 (.slice (some ⟨w1.heap.size,0,none⟩) 0 (occs ps)) (slotsK ps 0).length (nats (slotsK ps 0))):=⟨by simp [slotsK,nats],.inr (by
  rcases o2.2 with ⟨h,_⟩ | ⟨g',cap,cur,h1,h2,h3⟩
  ·cases h
  ·exact ⟨g',cap,cur,h1,Nat.le_trans b1.size h2,h3⟩)⟩
 clear o2 bb2 b1 c2 HS1
 go_loopw [3,16] (fun v i wr=>∃(k:Nat) (a:Option Addr) (c:Nat),k≤ps.length∧i=.int .i64 k∧v=.slice a (slotsK ps k).length c∧Hid (wr.ownsRow w.heap.size 3 1 (.slice a (slotsK ps k).length c) (slotsK ps k).length (nats (slotsK ps k)))∧Kb w wr) (fun _ i _=>ps.length-(intOf i).toNat)
 case atStart=>exact ⟨0,_,_,by omega,rfl,rfl,HO,hb2⟩
 case round=>
  clear HO hb2;obtain ⟨k,a,c,hk,rfl,rfl,hO,hbl⟩:=hrel;have hle:=Zvt ps k;have HS1:=Za (HS.out.mod (Mod.of_below hbl []) (fun _ _ h=>by cases h));have c2:=HS1.out.c2;have hwk:wrap64 ((k:Int)+1)=((k+1:Nat):Int):=by rw [Go.IntWalk.wrap64_in _ (by omega)];rfl
  by_cases hlt:k<ps.length
  ·have i1:(k:Int)<(ps.length:Int):=by omega
   have i0:(0:Int)≤(k:Int):=by omega
   obtain ⟨gp,pc',e,_⟩:=Zbg HS1.out.pls (by omega);injection e with e1 _ e3;subst e1;subst e3;have c4:=HS1.out.count k hlt;obtain ⟨q,hq0⟩:∃q,q=cnt ps k:=⟨_,rfl⟩;rw [← hq0] at c4
   by_cases hc:0<cnt ps k
   ·have hys:=Zhb ps k hc;have HY:=Za hys;have hq:(0:Int)<(q:Int):=by omega
    clear hc hys hq0;have HLE:=Za hle;have HPP:=Za hp;generalize hm:(slotsK ps k).length=m at *;have HM:=Za hm;clear hm
    go_wp2_with (at_builtin;refine Zax _ rfl _ _ _ rfl w.heap.size 3 1 8 Tryz.underlying30 Zak (by omega) _ m (nats (slotsK ps k)) rfl (hO.out.alloc _) wr.heap.size [Value.int .i64 ((k:Int)+1)] rfl (Blk.new _ _ _) rfl (by intro u hu;simp at hu;subst hu;rfl) (by have:=HLE.out;have:=HPP.out;simp only [maxLen];omega) (by have:=HLE.out;have:=HPP.out;omega) (by have:=hbl.size;simp;omega) ?_;intro a3 c3 w3 o3 g3)
    have e3:(slotsK ps (k+1)).length=m+1:=by rw [HY.out,List.length_append,HM.out];rfl
    refine ⟨⟨k+1,a3,c3,by omega,by go_num,by rw [e3],?_,?_⟩,by simp [intOf];omega⟩
    ·show World.ownsRow _ _ _ _ _ _ _;rw [e3,HY.out,Zau];exact o3
    ·exact (hbl.trans ((Zh wr _).mono hbl.size)).grown g3 (by have:=hbl.size;simp;omega) (fun q hq=>(hO.out.lt q hq).1)
   ·have hno:=Zir ps k hc;have HY:=Za hno;have hqz:q=0:=by omega
    subst hqz;clear hc hno hq0;go_wp2
    refine ⟨⟨k+1,a,c,by omega,by go_num,by rw [HY.out],?_,hbl⟩,by simp [intOf];omega⟩;rw [HY.out];exact hO
  ·obtain rfl:k=ps.length:=by omega
   have HO2:=hO;clear hO;generalize hm:(slotsK ps ps.length).length=m at *;have HM:=Za hm;clear hm;go_wp2
   go_ret;have e:(slotsOf ps).length=m:=HM.out;refine ⟨a,c,by rw [e];rfl,?_,hbl⟩;rw [e];exact HO2.out
end Go.Proofs.YtgfdgjkbcdmboaaGreatDoor
