/- Calls of a store, as contracts: Inner. -/
import Derived.Test.YtdjpigfibafokaaGreatDoorDz01
import Derived.Test.YtdjpigfibafokaaGreatDoorDz17
namespace Go.Proofs.YtdjpigfibafokaaGreatDoor
variable {S fr fr' pend:List Nat}
variable {b c g gs h room x:Nat}
variable {cs cs':Lz}
variable {v v' vf vf' vp vp':Value}
variable {w w' w0 wr:World}
set_option maxHeartbeats 4000000
set_option maxRecDepth 20000
open Go.RowKit

theorem upS (t:STurn w0 g gs S room cs fr w) (hz:Wz cs) (l:Nat) (hl:l=0∨1≤l∧0<cc cs (l-1)∧(ce cs (l-1)).ab≤1073741824):Kc 230 #[.pointer (some ⟨g,0,none⟩),.int .i64 (l:Int),.int .i64 1] w fun e w'=>e=.returned (.tuple #[])∧STurn w0 g gs S room (upA cs l) fr w':=by
  obtain ⟨vp,vf,h1,h2,h3⟩:=t;rcases hl with rfl | ⟨h4,h5,h6⟩
  · refine (above_out h1 hz 0 1 rfl).mono ?_
    rintro e w' ⟨rfl,hb⟩;exact ⟨rfl,STurn.trans ⟨vp,vf,h1,h2,h3⟩ (fun vp vf s=>STurn.refl hb (s.grow hb))⟩
  · obtain ⟨i,rfl⟩:∃i,l=i+1:=⟨l-1,by omega⟩
    rw [Nat.add_sub_cancel] at h5 h6;refine (above_in h1 hz i ((ce cs i).ab+1) 1 h5 rfl (by omega)).mono ?_;rintro e w' ⟨rfl,ht⟩;refine ⟨rfl,?_⟩;obtain ⟨vp',vf',k1,k2,k3⟩:=ht;exact ⟨vp',vf',k1,h2.trans h3 k2,h3.trans h2.size k3⟩

theorem dnS (t:STurn w0 g gs S room cs fr w) (hz:Wz cs) (l:Nat) (hl:l=0∨1≤l∧0<cc cs (l-1)∧1≤(ce cs (l-1)).ab∧(ce cs (l-1)).ab≤1073741824):Kc 230 #[.pointer (some ⟨g,0,none⟩),.int .i64 (l:Int),.int .i64 (-1)] w fun e w'=>e=.returned (.tuple #[])∧STurn w0 g gs S room (dnA cs l) fr w':=by
  obtain ⟨vp,vf,h1,h2,h3⟩:=t;rcases hl with rfl | ⟨h4,h5,h6,h7⟩
  · refine (above_out h1 hz 0 (-1) rfl).mono ?_
    rintro e w' ⟨rfl,hb⟩;exact ⟨rfl,STurn.trans ⟨vp,vf,h1,h2,h3⟩ (fun vp vf s=>STurn.refl hb (s.grow hb))⟩
  · obtain ⟨i,rfl⟩:∃i,l=i+1:=⟨l-1,by omega⟩
    rw [Nat.add_sub_cancel] at h5 h6 h7;refine (above_in h1 hz i ((ce cs i).ab-1) (-1) h5 (by omega) (by omega)).mono ?_;rintro e w' ⟨rfl,ht⟩;refine ⟨rfl,?_⟩;obtain ⟨vp',vf',k1,k2,k3⟩:=ht;exact ⟨vp',vf',k1,h2.trans h3 k2,h3.trans h2.size k3⟩

theorem innerS_no (d l r:Int) (x:Value) (w:World) (hn:NoS w x):Kc 225 #[x,.int .i64 d,.int .i64 l,.int .i64 r] w fun e w'=>e=.returned (.tuple #[.int .i64 0,.int .i64 1])∧Kb w w':=by
  have HN:=hidden hn;clear hn;go_enter Tryz.func225,Tryz.ntmps225
  go_wp2_with (go_at_call 75;refine (madeS_no x _ HN.out).mono ?_;rintro e w' ⟨rfl,hx⟩;rw [hx];clear hx w')
  go_ret2;exact ⟨rfl,Below.refl _ _⟩

def mayP (cs:Lz) (h:Int):Prop:=h=0∨(cat cs h).ab<cot cs h
instance (cs:Lz) (h:Int):Decidable (mayP cs h):=inferInstanceAs (Decidable (_∨_))

theorem innerS_miss (s:Stm w g gs vp vf room cs fr) {pend:List Nat} (hw:Wf cs pend) (d:Nat) (l r:Int) (hd:d<256) (hm: ¬(mayP cs l∧mayP cs r)):Kc 225 #[.pointer (some ⟨g,0,none⟩),.int .i64 (d:Int),.int .i64 l,.int .i64 r] w fun e w'=>e=.returned (.tuple #[.int .i64 0,.int .i64 7])∧Kb w w':=by
  have V:=vw_ok s hw;have c0:=s.c0;have HML:=hidden (may_any V l);have HMR:Hid (Kr w 266 #[.pointer (some ⟨g,0,none⟩),.int .i64 r] (.bool (decide (mayP cs r)))):=fun w' hb=>may_any (V.grow hb) r
  have d0: ¬(d:Int)<0:=by omega
  have d1: ¬(256:Int)≤(d:Int):=by omega
  by_cases hl:mayP cs l
  · have hr: ¬mayP cs r:=fun h=>hm ⟨hl,h⟩
    have e1:decide (l=0∨(cat cs l).ab<cot cs l)=true:=decide_eq_true hl;have e2:decide (mayP cs r)=false:=decide_eq_false hr;rw [e1] at HML;rw [e2] at HMR;clear s hw V hm hl hr e1 e2 hd;go_enter Tryz.func225,Tryz.ntmps225
    go_wp2_with (first
      |(go_at_call 75;refine (madeS_ok g _ c0).mono ?_;rintro e w' ⟨rfl,hx⟩;rw [hx];clear hx w')
      |(go_at_call 266;have mk:=m1;clear mk;refine (HMR.out _ b1).mono ?_;rintro e w2 ⟨rfl,b2⟩)
      |(go_at_call 266;refine HML.out.mono ?_;rintro e w1 ⟨rfl,b1⟩;have m1:Hid True:=trivial))
    go_ret2;exact ⟨rfl,grow_trans b1 b2⟩
  · have e1:decide (l=0∨(cat cs l).ab<cot cs l)=false:=decide_eq_false hl
    rw [e1] at HML;clear s hw V hm hl e1 hd HMR;go_enter Tryz.func225,Tryz.ntmps225
    go_wp2_with (first
      |(go_at_call 75;refine (madeS_ok g _ c0).mono ?_;rintro e w' ⟨rfl,hx⟩;rw [hx];clear hx w')
      |(go_at_call 266;refine HML.out.mono ?_;rintro e w1 ⟨rfl,b1⟩))
    go_ret2;exact ⟨rfl,b1⟩

theorem mayP.side (m:mayP cs (h:Int)):h=0∨1≤h∧0<cc cs (h-1)∧(ce cs (h-1)).ab<cc cs (h-1):=by
  by_cases h0:h=0
  · exact .inl h0
  · rcases m with m | m
    · omega
    · refine .inr ⟨by omega,?_⟩
      unfold cot at m;rw [cat_nat,sdC,if_neg h0,if_pos (by omega),show ((h:Int)-1).toNat=h-1 by omega] at m;exact ⟨by omega,m⟩
theorem size_of (s:Stm w g gs vp vf room cs fr) {pend:List Nat} (hw:Wf cs pend) (h:Nat) (m:mayP cs (h:Int)):(sdC cs h).sz≤65536:=by
  have h1:=hw.size_le h (by
    rcases m.side with e | ⟨_,e,_⟩
    · exact .inl e
    · exact .inr e)
  have h2:=s.sl.inv.len;have h3:=s.sl.inv.r2;rw [List.length_map] at h2;omega

theorem innerS_unfit (s:Stm w g gs vp vf room cs fr) {pend:List Nat} (hw:Wf cs pend) (d l r:Nat) (hd:d<256) (hml:mayP cs (l:Int)) (hmr:mayP cs (r:Int)) (u:Bool) (hu:u=true↔Und (sdC cs l).key (sdC cs r).key (d:Int)) (hf:fitP d (sdC cs l) (sdC cs r) u=false):Kc 225 #[.pointer (some ⟨g,0,none⟩),.int .i64 (d:Int),.int .i64 (l:Int),.int .i64 (r:Int)] w fun e w'=>e=.returned (.tuple #[.int .i64 0,.int .i64 2])∧Kb w w':=by
  have V:=vw_ok s hw;have HS:Hid (∀w',Kb w w'→Stm w' g gs vp vf room cs fr):=fun w' hb=>s.grow hb
  have c0:=s.c0;have zl:=size_of s hw l hml;have zr:=size_of s hw r hmr;have HML:=hidden (may_any V (l:Int));rw [show decide ((l:Int)=0∨(cat cs (l:Int)).ab<cot cs (l:Int))=true from decide_eq_true hml] at HML;have HMR:Hid (Kr w 266 #[.pointer (some ⟨g,0,none⟩),.int .i64 (r:Int)] (.bool true)):=fun w' hb=>by
    have:=may_any (V.grow hb) (r:Int);rwa [show decide ((r:Int)=0∨(cat cs (r:Int)).ab<cot cs (r:Int))=true from decide_eq_true hmr] at this
  have HAL:Hid (Kr w 125 #[.pointer (some ⟨g,0,none⟩),.int .i64 (l:Int)] (.agg (cz (sdC cs l)).toArray)):=fun w' hb=>by rw [← cat_nat];exact V.atv w' l hb
  have HAR:Hid (Kr w 125 #[.pointer (some ⟨g,0,none⟩),.int .i64 (r:Int)] (.agg (cz (sdC cs r)).toArray)):=fun w' hb=>by rw [← cat_nat];exact V.atv w' r hb
  have okL:CeOk (sdC cs l):=by rw [← cat_nat];exact hw.catOk l
  have okR:CeOk (sdC cs r):=by rw [← cat_nat];exact hw.catOk r
  have HFT:Hid (∀w',Kc 267 #[.int .i64 (d:Int),.agg (cz (sdC cs l)).toArray,.agg (cz (sdC cs r)).toArray] w' fun e w''=>e=.returned (.bool (fitP d (sdC cs l) (sdC cs r) u))∧Below w'.heap.size w' w''):=fun w'=>fit_any d _ _ u w' okL okR hd zl zr hu
  rw [hf] at HFT;have d0: ¬(d:Int)<0:=by omega
  have d1: ¬(256:Int)≤(d:Int):=by omega
  generalize sdC cs l=L at HAL HFT;generalize sdC cs r=R at HAR HFT;clear s hw V hml hmr hu hf hd okL okR zl zr;go_enter Tryz.func225,Tryz.ntmps225
  go_wp2_with (first
      |(go_at_call 75;refine (madeS_ok g _ c0).mono ?_;rintro e w' ⟨rfl,hx⟩;rw [hx];clear hx w')
      |(go_at_call 266;have mk:=m1;clear mk;refine (HMR.out _ b1).mono ?_;rintro e w2 ⟨rfl,b2⟩;have B2:=hidden (grow_trans b1 b2);clear b2)
      |(go_at_call 266;refine HML.out.mono ?_;rintro e w1 ⟨rfl,b1⟩;have m1:Hid True:=trivial)
      |(go_at_call 125;have mk:=m2;clear mk;refine (HAR.out _ B3.out).mono ?_;rintro e w4 ⟨rfl,b4⟩;have B4:=hidden (grow_trans B3.out b4);clear b4)
      |(go_at_call 125;refine (HAL.out _ B2.out).mono ?_;rintro e w3 ⟨rfl,b3⟩;have B3:=hidden (grow_trans B2.out b3);have m2:Hid True:=trivial;clear b3)
      |(go_at_call 267;refine (HFT.out _).mono ?_;rintro e w5 ⟨rfl,b5⟩;have B5:=hidden (grow_trans B4.out b5);clear b5))
  go_ret2;exact ⟨rfl,B5.out⟩

theorem innerS_full (s:Stm w g gs vp vf room cs fr) {pend:List Nat} (hw:Wf cs pend) (d l r:Nat) (hd:d<256) (hml:mayP cs (l:Int)) (hmr:mayP cs (r:Int)) (u:Bool) (hu:u=true↔Und (sdC cs l).key (sdC cs r).key (d:Int)) (hf:fitP d (sdC cs l) (sdC cs r) u=true) (hL:Laid w) (hfu:Full room cs fr):Kc 225 #[.pointer (some ⟨g,0,none⟩),.int .i64 (d:Int),.int .i64 (l:Int),.int .i64 (r:Int)] w fun e w'=>e=.returned (.tuple #[.int .i64 0,.int .i64 9])∧Kb w w':=by
  have V:=vw_ok s hw;have HS:Hid (∀w',Kb w w'→Stm w' g gs vp vf room cs fr):=fun w' hb=>s.grow hb
  have c0:=s.c0;have zl:=size_of s hw l hml;have zr:=size_of s hw r hmr;have HML:=hidden (may_any V (l:Int));rw [show decide ((l:Int)=0∨(cat cs (l:Int)).ab<cot cs (l:Int))=true from decide_eq_true hml] at HML;have HMR:Hid (Kr w 266 #[.pointer (some ⟨g,0,none⟩),.int .i64 (r:Int)] (.bool true)):=fun w' hb=>by
    have:=may_any (V.grow hb) (r:Int);rwa [show decide ((r:Int)=0∨(cat cs (r:Int)).ab<cot cs (r:Int))=true from decide_eq_true hmr] at this
  have HAL:Hid (Kr w 125 #[.pointer (some ⟨g,0,none⟩),.int .i64 (l:Int)] (.agg (cz (sdC cs l)).toArray)):=fun w' hb=>by rw [← cat_nat];exact V.atv w' l hb
  have HAR:Hid (Kr w 125 #[.pointer (some ⟨g,0,none⟩),.int .i64 (r:Int)] (.agg (cz (sdC cs r)).toArray)):=fun w' hb=>by rw [← cat_nat];exact V.atv w' r hb
  have okL:CeOk (sdC cs l):=by rw [← cat_nat];exact hw.catOk l
  have okR:CeOk (sdC cs r):=by rw [← cat_nat];exact hw.catOk r
  have HFT:Hid (∀w',Kc 267 #[.int .i64 (d:Int),.agg (cz (sdC cs l)).toArray,.agg (cz (sdC cs r)).toArray] w' fun e w''=>e=.returned (.bool (fitP d (sdC cs l) (sdC cs r) u))∧Below w'.heap.size w' w''):=fun w'=>fit_any d _ _ u w' okL okR hd zl zr hu
  rw [hf] at HFT;have d0: ¬(d:Int)<0:=by omega
  have d1: ¬(256:Int)≤(d:Int):=by omega
  have HL2:=hidden hL;have HJ:Hid (∀w',Kb w w'→Kc 268 #[.pointer (some ⟨g,0,none⟩),.int .i64 (d:Int),.int .i64 (l:Int),.int .i64 (r:Int)] w' fun e w''=>∃K,IsFill (if (sdC cs l).kind=0 then (sdC cs r).key else (sdC cs l).key) d 0 K∧e=.returned (.agg (cz (inC (inD (sdD cs l) (sdD cs r)) K ((sdC cs l).sz+(sdC cs r).sz) d l r)).toArray)∧Below w'.heap.size w' w''):=fun w' hb=>sjoin_any (s.grow hb) hw (hL.grow hb) d l r hd (by omega)
  have okx:∀K,IsFill (if (sdC cs l).kind=0 then (sdC cs r).key else (sdC cs l).key) d 0 K→CeOk (inC (inD (sdD cs l) (sdD cs r)) K ((sdC cs l).sz+(sdC cs r).sz) d l r):=fun K hK=>⟨dig_length _,dig_bytes _,hK.1,none,0,rfl⟩
  have HTK:Hid (∀w' K,IsFill (if (sdC cs l).kind=0 then (sdC cs r).key else (sdC cs l).key) d 0 K→Kb w w'→Kc 265 #[.pointer (some ⟨gs,0,none⟩),.agg (cz (inC (inD (sdD cs l) (sdD cs r)) K ((sdC cs l).sz+(sdC cs r).sz) d l r)).toArray] w' fun e w''=>e=.returned (.tuple #[.int .i64 0,.int .i64 9])∧Below w'.heap.size w' w''):=fun w' K hK hb=>take_none (s.grow hb) _ (okx K hK) hfu
  generalize inD (sdD cs l) (sdD cs r)=D at HJ HTK;generalize sdC cs l=L at HAL HFT HJ HTK;generalize sdC cs r=R at HAR HFT HJ HTK;clear s hw V hml hmr hu hf hd okL okR zl zr hL hfu okx;go_enter Tryz.func225,Tryz.ntmps225
  go_wp2_with (first
      |(go_at_call 75;refine (madeS_ok g _ c0).mono ?_;rintro e w' ⟨rfl,hx⟩;rw [hx];clear hx w')
      |(go_at_call 266;have mk:=m1;clear mk;refine (HMR.out _ b1).mono ?_;rintro e w2 ⟨rfl,b2⟩;have B2:=hidden (grow_trans b1 b2);clear b2)
      |(go_at_call 266;refine HML.out.mono ?_;rintro e w1 ⟨rfl,b1⟩;have m1:Hid True:=trivial)
      |(go_at_call 125;have mk:=m2;clear mk;refine (HAR.out _ B3.out).mono ?_;rintro e w4 ⟨rfl,b4⟩;have B4:=hidden (grow_trans B3.out b4);clear b4)
      |(go_at_call 125;refine (HAL.out _ B2.out).mono ?_;rintro e w3 ⟨rfl,b3⟩;have B3:=hidden (grow_trans B2.out b3);have m2:Hid True:=trivial;clear b3)
      |(go_at_call 267;refine (HFT.out _).mono ?_;rintro e w5 ⟨rfl,b5⟩;have B5:=hidden (grow_trans B4.out b5);clear b5))
  have B6:Hid (Kb w w5.drew):=below_drewN B5.out 1;have HS0:Hid (w5.drew.cell? ⟨g,1,none⟩=some (.pointer (some ⟨gs,0,none⟩))):=(HS.out _ B6.out).c1;refine wp_region_held_drew (S:=fun w'=>w'.cell? ⟨g,1,none⟩=some (.pointer (some ⟨gs,0,none⟩))) (by kernel_rfl) (HS0.out) (fun hHeld=>?_);refine tkp 0 (.pointer (some ⟨g,0,none⟩)) hHeld ?_;simp only [Act.put,zq1,zq2,zq4,zq5,zq6];refine tkp 1 (.pointer (some ⟨g,0,none⟩)) hHeld ?_;simp only [Act.put,zq1,zq2,zq3,zq4,zq5,zq6];refine tkp 2 (.pointer (some ⟨g,1,none⟩)) hHeld ?_;simp only [Act.put,zq1,zq2,zq3,zq4,zq5,zq6];refine tkg 3 (.pointer (some ⟨gs,0,none⟩)) rfl (Or.inl ⟨by rfl,fun w hS=>by (have q1:=hS;go_simp)⟩) hHeld ?_;simp only [Act.put,zq1,zq2,zq3,zq4,zq5,zq6];refine tkp 4 (.pointer (some ⟨g,0,none⟩)) hHeld ?_;simp only [Act.put,zq1,zq2,zq3,zq4,zq5,zq6];refine tkp 5 (.int .i64 (d:Int)) hHeld ?_;simp only [Act.put,zq1,zq2,zq3,zq4,zq5,zq6];refine tkp 6 (.int .i64 (l:Int)) hHeld ?_;simp only [Act.put,zq1,zq2,zq3,zq4,zq5,zq6];refine tkp 7 (.int .i64 (r:Int)) hHeld ?_;simp only [Act.put,zq1,zq2,zq3,zq4,zq5,zq6];refine wpAnyH_ready (rs:=[8]) (by kernel_rfl) (by simp) ?_;refine AllReadyH.cons rfl (fun KQ hK=>?_) AllReadyH.nil;go_simp;refine (HJ.out _ B6.out).mono ?_;rintro e z1 ⟨K,hK,rfl,a1⟩;have Ha:=hidden (grow_trans B6.out a1);have HKF:=hidden hK;clear a1 hK;refine hK.out _ _ ((HS.out _ Ha.out).c1) (fun hHeld=>?_);clear hK KQ;refine wpAnyH_ready (rs:=[9]) (by kernel_rfl) (by simp) ?_;refine AllReadyH.cons rfl (fun KQ hK=>?_) AllReadyH.nil;go_simp;refine (HTK.out _ K HKF.out Ha.out).mono ?_;rintro e z2 ⟨rfl,a2⟩;have Ha2:=hidden (grow_trans Ha.out a2);clear a2;refine hK.out _ _ ((HS.out _ Ha2.out).c1) (fun hHeld=>?_);clear hK KQ;refine tkp 10 (.tuple #[.int .i64 0,.int .i64 9]) hHeld ?_;simp only [Act.put,zq1,zq2,zq3,zq4,zq5,zq6];refine tkp 11 (.int .i64 0) hHeld ?_;simp only [Act.put,zq1,zq2,zq3,zq4,zq5,zq6];refine tkp 12 (.int .i64 9) hHeld ?_;simp only [Act.put,zq1,zq2,zq3,zq4,zq5,zq6];refine wpAnyH_ready (rs:=[13]) (by kernel_rfl) (by simp) ?_;refine AllReadyH.cons rfl (fun KQ hK=>?_) AllReadyH.nil;go_simp;refine hK.out _ _ (hHeld) (fun hHeld=>?_);clear hK KQ;refine wpAnyH_ready (rs:=[14]) (by kernel_rfl) (by simp) ?_;refine AllReadyH.cons rfl (fun KQ hK=>?_) AllReadyH.nil;go_simp;refine hK.out _ _ (hHeld) (fun hHeld=>?_);clear hK KQ;refine wpAnyH_done (by kernel_rfl) ?_ _;go_wp2
  go_ret2;exact ⟨rfl,Ha2.out⟩

theorem innerS_ok (s:Stm w g gs vp vf room cs fr) {pend:List Nat} (hw:Wf cs pend) (d l r:Nat) (hd:d<256) (hml:mayP cs (l:Int)) (hmr:mayP cs (r:Int)) (u:Bool) (hu:u=true↔Und (sdC cs l).key (sdC cs r).key (d:Int)) (hf:fitP d (sdC cs l) (sdC cs r) u=true) (hL:Laid w) (hfu: ¬Full room cs fr):Kc 225 #[.pointer (some ⟨g,0,none⟩),.int .i64 (d:Int),.int .i64 (l:Int),.int .i64 (r:Int)] w fun e w'=>∃K,IsFill (if (sdC cs l).kind=0 then (sdC cs r).key else (sdC cs l).key) d 0 K∧e=.returned (.tuple #[.int .i64 (tkH cs fr:Int),.int .i64 0])∧STurn w g gs (stB g gs vp vf cs) room (upA (upA (tkC cs fr (1,inC (inD (sdD cs l) (sdD cs r)) K ((sdC cs l).sz+(sdC cs r).sz) d l r)) l) r) fr.dropLast w':=by
  have V:=vw_ok s hw;have HS:Hid (∀w',Kb w w'→Stm w' g gs vp vf room cs fr):=fun w' hb=>s.grow hb
  have c0:=s.c0;have zl:=size_of s hw l hml;have zr:=size_of s hw r hmr;have HML:=hidden (may_any V (l:Int));rw [show decide ((l:Int)=0∨(cat cs (l:Int)).ab<cot cs (l:Int))=true from decide_eq_true hml] at HML;have HMR:Hid (Kr w 266 #[.pointer (some ⟨g,0,none⟩),.int .i64 (r:Int)] (.bool true)):=fun w' hb=>by
    have:=may_any (V.grow hb) (r:Int);rwa [show decide ((r:Int)=0∨(cat cs (r:Int)).ab<cot cs (r:Int))=true from decide_eq_true hmr] at this
  have HAL:Hid (Kr w 125 #[.pointer (some ⟨g,0,none⟩),.int .i64 (l:Int)] (.agg (cz (sdC cs l)).toArray)):=fun w' hb=>by rw [← cat_nat];exact V.atv w' l hb
  have HAR:Hid (Kr w 125 #[.pointer (some ⟨g,0,none⟩),.int .i64 (r:Int)] (.agg (cz (sdC cs r)).toArray)):=fun w' hb=>by rw [← cat_nat];exact V.atv w' r hb
  have okL:CeOk (sdC cs l):=by rw [← cat_nat];exact hw.catOk l
  have okR:CeOk (sdC cs r):=by rw [← cat_nat];exact hw.catOk r
  have HFT:Hid (∀w',Kc 267 #[.int .i64 (d:Int),.agg (cz (sdC cs l)).toArray,.agg (cz (sdC cs r)).toArray] w' fun e w''=>e=.returned (.bool (fitP d (sdC cs l) (sdC cs r) u))∧Below w'.heap.size w' w''):=fun w'=>fit_any d _ _ u w' okL okR hd zl zr hu
  rw [hf] at HFT;have d0: ¬(d:Int)<0:=by omega
  have d1: ¬(256:Int)≤(d:Int):=by omega
  have HL2:=hidden hL;have HJ:Hid (∀w',Kb w w'→Kc 268 #[.pointer (some ⟨g,0,none⟩),.int .i64 (d:Int),.int .i64 (l:Int),.int .i64 (r:Int)] w' fun e w''=>∃K,IsFill (if (sdC cs l).kind=0 then (sdC cs r).key else (sdC cs l).key) d 0 K∧e=.returned (.agg (cz (inC (inD (sdD cs l) (sdD cs r)) K ((sdC cs l).sz+(sdC cs r).sz) d l r)).toArray)∧Below w'.heap.size w' w''):=fun w' hb=>sjoin_any (s.grow hb) hw (hL.grow hb) d l r hd (by omega)
  have okx:∀K,IsFill (if (sdC cs l).kind=0 then (sdC cs r).key else (sdC cs l).key) d 0 K→CeOk (inC (inD (sdD cs l) (sdD cs r)) K ((sdC cs l).sz+(sdC cs r).sz) d l r):=fun K hK=>⟨dig_length _,dig_bytes _,hK.1,none,0,rfl⟩
  have HTK:Hid (∀w' K,IsFill (if (sdC cs l).kind=0 then (sdC cs r).key else (sdC cs l).key) d 0 K→Kb w w'→Kc 265 #[.pointer (some ⟨gs,0,none⟩),.agg (cz (inC (inD (sdD cs l) (sdD cs r)) K ((sdC cs l).sz+(sdC cs r).sz) d l r)).toArray] w' fun e w''=>e=.returned (.tuple #[.int .i64 (tkH cs fr:Int),.int .i64 0])∧STurn w g gs (stB g gs vp vf cs) room (tkC cs fr (1,inC (inD (sdD cs l) (sdD cs r)) K ((sdC cs l).sz+(sdC cs r).sz) d l r)) fr.dropLast w''):=by
    intro w' K hK hb;refine (take_any (s.grow hb) _ (okx K hK) hfu).mono ?_;rintro e w'' ⟨rfl,t⟩;exact ⟨rfl,leaf_turn (sp:=[]) hb (s.grow hb) t (Own.nil _ _)⟩
  have tk:=fun x=>(tk_of (frOk_inv s.sl.inv) (1,x)).2
  have hz1:∀K,IsFill (if (sdC cs l).kind=0 then (sdC cs r).key else (sdC cs l).key) d 0 K→Wz (tkC cs fr (1,inC (inD (sdD cs l) (sdD cs r)) K ((sdC cs l).sz+(sdC cs r).sz) d l r)):=fun K hK=>by
    refine ⟨fun j hj=>?_,fun j=>?_⟩
    · rw [(tk _).cc] at hj
      rw [(tk _).ce];split at hj
      · simp at hj
      · next e=>rw [if_neg e];exact hw.zero j hj
    · rw [(tk _).ce]
      split
      · exact okx K hK
      · exact hw.ok j
  have side:∀x (q:Nat),mayP cs (q:Int)→q=0∨1≤q∧0<cc (tkC cs fr (1,x)) (q-1)∧(ce (tkC cs fr (1,x)) (q-1)).ab+1≤1073741824:=fun x q hq=>by
    rcases hq.side with e | ⟨e1,e2,e3⟩
    · exact .inl e
    · have hne:q-1≠tkH cs fr-1:=fun e=>by
        rw [e,(tk x).vac] at e2;omega
      have hmo:=s.sl.inv.most (q-1);rw [cnt_pl] at hmo;refine .inr ⟨e1,?_⟩;rw [(tk x).cc,(tk x).ce,if_neg hne,if_neg hne];omega
  have HU1:Hid (∀w' K,IsFill (if (sdC cs l).kind=0 then (sdC cs r).key else (sdC cs l).key) d 0 K→STurn w g gs (stB g gs vp vf cs) room (tkC cs fr (1,inC (inD (sdD cs l) (sdD cs r)) K ((sdC cs l).sz+(sdC cs r).sz) d l r)) fr.dropLast w'→Kc 230 #[.pointer (some ⟨g,0,none⟩),.int .i64 (l:Int),.int .i64 1] w' fun e w''=>e=.returned (.tuple #[])∧STurn w g gs (stB g gs vp vf cs) room (upA (tkC cs fr (1,inC (inD (sdD cs l) (sdD cs r)) K ((sdC cs l).sz+(sdC cs r).sz) d l r)) l) fr.dropLast w''):=fun w' K hK t=>upS t (hz1 K hK) l (by
    rcases side (inC (inD (sdD cs l) (sdD cs r)) K ((sdC cs l).sz+(sdC cs r).sz) d l r) l hml with e | ⟨e1,e2,e3⟩
    · exact .inl e
    · exact .inr ⟨e1,e2,by omega⟩)
  have HU2:Hid (∀w' K,IsFill (if (sdC cs l).kind=0 then (sdC cs r).key else (sdC cs l).key) d 0 K→STurn w g gs (stB g gs vp vf cs) room (upA (tkC cs fr (1,inC (inD (sdD cs l) (sdD cs r)) K ((sdC cs l).sz+(sdC cs r).sz) d l r)) l) fr.dropLast w'→Kc 230 #[.pointer (some ⟨g,0,none⟩),.int .i64 (r:Int),.int .i64 1] w' fun e w''=>e=.returned (.tuple #[])∧STurn w g gs (stB g gs vp vf cs) room (upA (upA (tkC cs fr (1,inC (inD (sdD cs l) (sdD cs r)) K ((sdC cs l).sz+(sdC cs r).sz) d l r)) l) r) fr.dropLast w''):=fun w' K hK t=>by
    have hx:=side (inC (inD (sdD cs l) (sdD cs r)) K ((sdC cs l).sz+(sdC cs r).sz) d l r);have hz1':=hz1 K hK;generalize tkC cs fr (1,inC (inD (sdD cs l) (sdD cs r)) K ((sdC cs l).sz+(sdC cs r).sz) d l r)=c1 at t hx hz1' ⊢;have a1:=upA_of c1 l;refine upS t ?_ r ?_
    · refine ⟨fun j hj=>?_,fun j=>(a1.core j).ok (hz1'.ok j)⟩
      rw [a1.cc] at hj;have hk:=a1.core j;rw [hz1'.zero j hj] at hk;rcases hx l hml with e | ⟨e1,e2,e3⟩
      · subst e
        exact hz1'.zero j hj
      · have hab:=upA_ab c1 l j (.inl (cc_lt e2))
        have hne: ¬l=j+1:=fun e=>by
          rw [e,Nat.add_sub_cancel,hj] at e2;omega
        rw [if_neg hne,hz1'.zero j hj] at hab;rw [hk,hab];rfl
    · rcases hx r hmr with e | ⟨e1,e2,e3⟩
      · exact .inl e
      · refine .inr ⟨e1,by rw [a1.cc];exact e2,?_⟩
        rcases hx l hml with e | ⟨f1,f2,f3⟩
        · subst e
          exact Nat.le_of_succ_le e3
        · rw [upA_ab c1 l (r-1) (.inl (cc_lt f2))]
          split <;> omega
  generalize inD (sdD cs l) (sdD cs r)=D at HJ HTK HU1 HU2 ⊢;generalize sdC cs l=L at HAL HFT HJ HTK HU1 HU2 ⊢;generalize sdC cs r=R at HAR HFT HJ HTK HU1 HU2 ⊢;generalize (if L.kind=0 then R.key else L.key)=XK at HJ HTK HU1 HU2 ⊢;clear s hw V hml hmr hu hf hd okL okR zl zr hL hfu okx tk hz1 side;go_enter Tryz.func225,Tryz.ntmps225
  go_wp2_with (first
      |(go_at_call 75;refine (madeS_ok g _ c0).mono ?_;rintro e w' ⟨rfl,hx⟩;rw [hx];clear hx w')
      |(go_at_call 266;have mk:=m1;clear mk;refine (HMR.out _ b1).mono ?_;rintro e w2 ⟨rfl,b2⟩;have B2:=hidden (grow_trans b1 b2);clear b2)
      |(go_at_call 266;refine HML.out.mono ?_;rintro e w1 ⟨rfl,b1⟩;have m1:Hid True:=trivial)
      |(go_at_call 125;have mk:=m2;clear mk;refine (HAR.out _ B3.out).mono ?_;rintro e w4 ⟨rfl,b4⟩;have B4:=hidden (grow_trans B3.out b4);clear b4)
      |(go_at_call 125;refine (HAL.out _ B2.out).mono ?_;rintro e w3 ⟨rfl,b3⟩;have B3:=hidden (grow_trans B2.out b3);have m2:Hid True:=trivial;clear b3)
      |(go_at_call 267;refine (HFT.out _).mono ?_;rintro e w5 ⟨rfl,b5⟩;have B5:=hidden (grow_trans B4.out b5);clear b5))
  have B6:Hid (Kb w w5.drew):=below_drewN B5.out 1;have HS0:Hid (w5.drew.cell? ⟨g,1,none⟩=some (.pointer (some ⟨gs,0,none⟩))):=(HS.out _ B6.out).c1;refine wp_region_held_drew (S:=fun w'=>w'.cell? ⟨g,1,none⟩=some (.pointer (some ⟨gs,0,none⟩))) (by kernel_rfl) (HS0.out) (fun hHeld=>?_);refine tkp 0 (.pointer (some ⟨g,0,none⟩)) hHeld ?_;simp only [Act.put,zq1,zq2,zq4,zq5,zq6];refine tkp 1 (.pointer (some ⟨g,0,none⟩)) hHeld ?_;simp only [Act.put,zq1,zq2,zq3,zq4,zq5,zq6];refine tkp 2 (.pointer (some ⟨g,1,none⟩)) hHeld ?_;simp only [Act.put,zq1,zq2,zq3,zq4,zq5,zq6];refine tkg 3 (.pointer (some ⟨gs,0,none⟩)) rfl (Or.inl ⟨by rfl,fun w hS=>by (have q1:=hS;go_simp)⟩) hHeld ?_;simp only [Act.put,zq1,zq2,zq3,zq4,zq5,zq6];refine tkp 4 (.pointer (some ⟨g,0,none⟩)) hHeld ?_;simp only [Act.put,zq1,zq2,zq3,zq4,zq5,zq6];refine tkp 5 (.int .i64 (d:Int)) hHeld ?_;simp only [Act.put,zq1,zq2,zq3,zq4,zq5,zq6];refine tkp 6 (.int .i64 (l:Int)) hHeld ?_;simp only [Act.put,zq1,zq2,zq3,zq4,zq5,zq6];refine tkp 7 (.int .i64 (r:Int)) hHeld ?_;simp only [Act.put,zq1,zq2,zq3,zq4,zq5,zq6];refine wpAnyH_ready (rs:=[8]) (by kernel_rfl) (by simp) ?_;refine AllReadyH.cons rfl (fun KQ hK=>?_) AllReadyH.nil;go_simp;refine (HJ.out _ B6.out).mono ?_;rintro e z1 ⟨K,hK,rfl,a1⟩;have Ha:=hidden (grow_trans B6.out a1);have HKF:=hidden hK;clear a1 hK;refine hK.out _ _ ((HS.out _ Ha.out).c1) (fun hHeld=>?_);clear hK KQ;refine wpAnyH_ready (rs:=[9]) (by kernel_rfl) (by simp) ?_;refine AllReadyH.cons rfl (fun KQ hK=>?_) AllReadyH.nil;go_simp;refine (HTK.out _ K HKF.out Ha.out).mono ?_;rintro e z2 ⟨rfl,t2⟩;have HT:=hidden t2;clear t2;refine hK.out _ _ (by obtain ⟨_,_,h1,_,_⟩:=HT.out;exact h1.c1) (fun hHeld=>?_);clear hK KQ;refine tkp 10 (.tuple #[.int .i64 (tkH cs fr:Int),.int .i64 0]) hHeld ?_;simp only [Act.put,zq1,zq2,zq3,zq4,zq5,zq6];refine tkp 11 (.int .i64 (tkH cs fr:Int)) hHeld ?_;simp only [Act.put,zq1,zq2,zq3,zq4,zq5,zq6];refine tkp 12 (.int .i64 0) hHeld ?_;simp only [Act.put,zq1,zq2,zq3,zq4,zq5,zq6];refine wpAnyH_ready (rs:=[13]) (by kernel_rfl) (by simp) ?_;refine AllReadyH.cons rfl (fun KQ hK=>?_) AllReadyH.nil;go_simp;refine hK.out _ _ (hHeld) (fun hHeld=>?_);clear hK KQ;refine wpAnyH_ready (rs:=[14]) (by kernel_rfl) (by simp) ?_;refine AllReadyH.cons rfl (fun KQ hK=>?_) AllReadyH.nil;go_simp;refine hK.out _ _ (hHeld) (fun hHeld=>?_);clear hK KQ;refine wpAnyH_done (by kernel_rfl) ?_ _;clear c0 hHeld
  go_wp2_with (first
    |(go_at_call 230;have mk:=m5;clear mk;refine (HU2.out _ K HKF.out T1.out).mono ?_;rintro e y2 ⟨rfl,t⟩;have T2:=hidden t;clear t)
    |(go_at_call 230;refine (HU1.out _ K HKF.out HT.out).mono ?_;rintro e y1 ⟨rfl,t⟩;have T1:=hidden t;have m5:Hid True:=trivial;clear t))
  go_ret2;exact ⟨K,HKF.out,rfl,T2.out⟩

end Go.Proofs.YtdjpigfibafokaaGreatDoor

namespace Go.Proofs.YtdjpigfibafokaaGreatDoor
variable {S fr fr' pend:List Nat}
variable {b c g gs h room x:Nat}
variable {cs cs':Lz}
variable {v v' vf vf' vp vp':Value}
variable {w w' w0 wr:World}
set_option maxHeartbeats 4000000
set_option maxRecDepth 20000
open Go.RowKit

def Dl (w:World) (S:List Nat) (g gs room:Nat) (cs:Lz) (fr:List Nat) (v:Value) (xs:List Nat) (X:List (Nat×Obj)) (wr:World):Prop:=
  ∃vp vf,Stm wr g gs vp vf room cs fr∧Mod S w wr∧New S w (stB g gs vp vf cs)∧Lst wr 3 1 v xs.length (nats xs)∧(∀k,v.ownBlock=some k→w.heap.size≤k∧k ∉ stB g gs vp vf cs)∧∀x∈X,wr.heap[x.1]?=some x.2∧x.1 ∉ stB g gs vp vf cs∧v.ownBlock≠some x.1

theorem Dl.slice {xs:List Nat} {X:List (Nat×Obj)} (h:Dl w S g gs room cs fr v xs X wr):∃a c,v=.slice a xs.length c:=by
  obtain ⟨_,_,_,_,_,h,_,_⟩:=h;exact lst_slice h

theorem Dl.turned {xs:List Nat} {X:List (Nat×Obj)} (h:Dl w S g gs room cs fr v xs X wr):STurn w g gs S room cs fr wr:=by
  obtain ⟨vp,vf,h1,h2,h3,_⟩:=h;exact ⟨vp,vf,h1,h2,h3⟩

theorem Dl.c01 {xs:List Nat} {X:List (Nat×Obj)} (h:Dl w S g gs room cs fr v xs X wr):wr.cell? ⟨g,0,none⟩=some (.pointer (some ⟨g,0,none⟩))∧wr.cell? ⟨g,1,none⟩=some (.pointer (some ⟨gs,0,none⟩)):=by
  obtain ⟨vp,vf,h1,_⟩:=h;exact ⟨h1.c0,h1.c1⟩

theorem Dl.grow {xs:List Nat} {X:List (Nat×Obj)} (h:Dl w S g gs room cs fr v xs X wr) (hb:Kb wr w'):Dl w S g gs room cs fr v xs X w':=by
  obtain ⟨vp,vf,h1,h2,h3,h4,h5,h6⟩:=h;exact ⟨vp,vf,h1.grow hb,h2.trans' (Mod.of_below hb _),h3,lst_grow h4 hb,h5,fun x hx=>⟨(hb.block x.1 (Array.getElem?_eq_some_iff.1 (h6 x hx).1).1).trans (h6 x hx).1,(h6 x hx).2⟩⟩

theorem Dl.use {xs:List Nat} {X:List (Nat×Obj)} {f:FuncId} {args:Array Value} {E:Ending} (h:Dl w S g gs room cs fr v xs X wr) (hc:∀vp vf,Stm wr g gs vp vf room cs fr→Kc f args wr fun e w'=>e=E∧STurn wr g gs (stB g gs vp vf cs) room cs' fr' w'):Kc f args wr fun e w'=>e=E∧Dl w S g gs room cs' fr' v xs X w':=by
  obtain ⟨vp,vf,h1,h2,h3,h4,h5,h6⟩:=h;refine (hc vp vf h1).mono ?_;rintro e w' ⟨rfl,t⟩;refine ⟨rfl,?_⟩;obtain ⟨vp',vf',k1,k2,k3⟩:=t;refine ⟨vp',vf',k1,h2.trans h3 k2,h3.trans h2.size k3,lst_mod h4 k2 (fun k hk=>(h5 k hk).2),fun k hk=>⟨(h5 k hk).1,fun e=>?_⟩,fun x hx=>?_⟩
  · rcases k3 k e with e | e
    · exact (h5 k hk).2 e
    · have:=lst_lt h4 k hk
      omega
  · obtain ⟨q1,q2,q3⟩:=h6 x hx
    have hlt:=(Array.getElem?_eq_some_iff.1 q1).1;refine ⟨(k2.block x.1 hlt q2).trans q1,fun e=>?_,q3⟩;rcases k3 x.1 e with e | e
    · exact q2 e
    · omega

theorem Dl.push {xs:List Nat} {X:List (Nat×Obj)} (h:Dl w S g gs room cs fr v xs X wr) (hl:Lst w' 3 1 v' (xs.length+1) (nats xs++[.int .i64 (x:Int)])) (hg:wr.grownBy w' v.ownBlock) (hw:WhereL wr v v'):Dl w S g gs room cs fr v' (xs++[x]) X w':=by
  obtain ⟨vp,vf,h1,h2,h3,h4,h5,h6⟩:=h;have m:Mod v.ownBlock.toList wr w':=Mod.of_grown hg (fun k hk=>by simp [hk]);have hn:∀k∈v.ownBlock.toList,w.heap.size≤k∧k ∉ stB g gs vp vf cs:=fun k hk=>h5 k (by simpa using hk)
  refine ⟨vp,vf,h1.mod m (fun k hk e=>(hn k e).2 hk),⟨m.os.trans h2.os,m.tape.trans h2.tape,m.output.trans h2.output,Nat.le_trans h2.size m.size,fun k hk hs=>?_⟩,h3,?_,fun k hk=>?_,fun x hx=>?_⟩
  · rw [m.block k (Nat.lt_of_lt_of_le hk h2.size) (fun e=>by have:=(hn k e).1;omega)]
    exact h2.block k hk hs
  · rw [nats_snoc,List.length_append,List.length_singleton]
    exact hl
  · rcases hw with e | ⟨q,e,hq⟩
    · rw [e] at hk
      exact h5 k hk
    · rw [e] at hk
      injection hk with hk;subst hk;refine ⟨Nat.le_trans h2.size hq,fun e2=>?_⟩;have:=h1.lts q e2;omega
  · obtain ⟨q1,q2,q3⟩:=h6 x hx
    have hlt:=(Array.getElem?_eq_some_iff.1 q1).1;refine ⟨(m.block x.1 hlt (fun e=>q3 (by simpa using e))).trans q1,q2,fun e2=>?_⟩;rcases hw with e | ⟨q,e,hq⟩
    · rw [e] at e2
      exact q3 e2
    · rw [e] at e2
      injection e2 with e2;omega

theorem Dl.pop {xs:List Nat} {X:List (Nat×Obj)} (h:Dl w S g gs room cs fr (.slice (some ⟨b,0,none⟩) (xs++[x]).length c) (xs++[x]) X wr):Dl w S g gs room cs fr (.slice (some ⟨b,0,none⟩) xs.length c) xs X wr:=by
  obtain ⟨vp,vf,h1,h2,h3,h4,h5,h6⟩:=h;refine ⟨vp,vf,h1,h2,h3,?_,fun k hk=>h5 k hk,fun x hx=>h6 x hx⟩;have:=lst_cut (m:=xs.length) h4 (by simp);rw [Nat.mul_one,nats_take,List.take_left] at this;exact this

theorem Dl.last {xs:List Nat} {X:List (Nat×Obj)} (h:Dl w S g gs room cs fr v (xs++[x]) X wr):∃b c,v=.slice (some ⟨b,0,none⟩) (xs.length+1) c∧xs.length+1≤c∧wr.cell? ⟨b,xs.length,none⟩=some (.int .i64 (x:Int)):=by
  obtain ⟨vp,vf,h1,h2,h3,h4,h5,_⟩:=h;rw [List.length_append,List.length_singleton] at h4;obtain ⟨b,c,rfl,hc⟩:=lst_pos h4 (by omega);refine ⟨b,c,rfl,hc,?_⟩;rw [lst_cell h4 _ (by omega),nats_snoc,List.getElem?_append_right (by rw [nats_length];omega),nats_length,Nat.sub_self];rfl

theorem Dl.held {xs:List Nat} {X:List (Nat×Obj)} {t:TypeId} {cells:Array Value} (h:Dl w S g gs room cs fr v xs X wr) (hx:(b,Obj.cells cells t (0,0))∈X):Blk wr b t cells:=by
  obtain ⟨_,_,_,_,_,_,_,h6⟩:=h;exact (h6 _ hx).1

theorem Dl.less {xs:List Nat} {X Y:List (Nat×Obj)} (h:Dl w S g gs room cs fr v xs X wr) (hy:∀y∈Y,y∈X):Dl w S g gs room cs fr v xs Y wr:=by
  obtain ⟨vp,vf,h1,h2,h3,h4,h5,h6⟩:=h;exact ⟨vp,vf,h1,h2,h3,h4,h5,fun x hx=>h6 x (hy x hx)⟩

theorem Dl.hold {xs:List Nat} {X:List (Nat×Obj)} {o:Obj} (h:Dl w S g gs room cs fr v xs X wr) (hb:Kb wr w') (hk:wr.heap.size≤b) (hB:w'.heap[b]?=some o):Dl w S g gs room cs fr v xs ((b,o)::X) w':=by
  have hg:=h.grow hb;obtain ⟨vp0,vf0,h1,_,_,h4,_,_⟩:=h;obtain ⟨vp,vf,g1,g2,g3,g4,g5,g6⟩:=hg;have e1:vp=vp0:=Option.some.inj (g1.sl.c2.symm.trans (h1.grow hb).sl.c2);have e2:vf=vf0:=Option.some.inj (g1.sl.c3.symm.trans (h1.grow hb).sl.c3);subst e1 e2;refine ⟨vp,vf,g1,g2,g3,g4,g5,fun x hx=>?_⟩;rcases List.mem_cons.1 hx with rfl | hx
  · exact ⟨hB,fun e=>by have:=h1.lts _ e;simp only at this;omega,fun e=>by have:=lst_lt h4 _ e;simp only at this;omega⟩
  · exact g6 x hx

theorem letGo_any {xs:List Nat} {X:List (Nat×Obj)} (h:Dl w S g gs room cs fr v xs X wr) (hz:Wz cs) (l:Nat) (hl:l=0∨1≤l∧0<cc cs (l-1)∧1≤(ce cs (l-1)).ab∧(ce cs (l-1)).ab≤1073741824) (hx:xs.length≤1048576):Kc 174 #[.pointer (some ⟨g,0,none⟩),v,.int .i64 (l:Int)] wr fun e w'=>∃a q c,e=.returned (.slice a q c)∧q=(xs++ne0 l).length∧Dl w S g gs room (dnA cs l) fr (.slice a q c) (xs++ne0 l) X w':=by
  have HD:=hidden h;obtain ⟨a,c,rfl⟩:=h.slice
  by_cases h0:l=0
  · subst h0
    clear hl hz hx h;go_enter Tryz.func174,Tryz.ntmps174
    go_wp2
    go_ret;have e:xs++ne0 0=xs:=by simp [ne0]
    rw [e];exact ⟨_,_,_,rfl,rfl,HD.out⟩
  · have hb0:((l:Int) == 0)=false:=by simp;omega
    have HC:Hid (Kc 230 #[.pointer (some ⟨g,0,none⟩),.int .i64 (l:Int),.int .i64 (-1)] wr fun e w'=>e=.returned (.tuple #[])∧Dl w S g gs room (dnA cs l) fr (.slice a xs.length c) xs X w'):=h.use (fun vp vf s=>dnS (STurn.refl (Below.refl _ _) s) hz l hl);have HE:Hid (xs++ne0 l=xs++[l]):=by simp [ne0,h0,Hid]
    rw [HE.out];have HX:=hidden hx;clear hl hz hx h h0 HE;go_enter Tryz.func174,Tryz.ntmps174
    go_wp2_with (first
      |(go_at_call 230;refine HC.out.mono ?_;rintro e w1 ⟨rfl,d1⟩;have HD1:=hidden d1;clear d1)
      |(at_builtin;have HD2:=hidden (HD1.out.grow (grow_alloc w1 (.cells #[.int .i64 (l:Int)] 3)));refine wpList_appL _ rfl _ _ _ rfl 3 1 8 Tryz.underlying45 info_nat (by omega) _ xs.length (nats xs) rfl (by obtain ⟨_,_,_,_,_,q,_,_⟩:=HD2.out;exact q) w1.heap.size [Value.int .i64 (l:Int)] rfl (Blk.new _ _ _) rfl (by intro u hu;simp at hu;subst hu;rfl) (by have:=HX.out;simp only [maxLen];omega) (by have:=HX.out;omega) ?_;intro v' w3 h3 g3 wh;obtain ⟨a2,c2,rfl⟩:=lst_slice h3))
    go_ret;exact ⟨_,_,_,rfl,by simp,HD2.out.push h3 g3 wh⟩

end Go.Proofs.YtdjpigfibafokaaGreatDoor

namespace Go.Proofs.YtdjpigfibafokaaGreatDoor
variable {S fr fr' pend:List Nat}
variable {b c g gs h room x:Nat}
variable {cs cs':Lz}
variable {v v' vf vf' vp vp':Value}
variable {w w' w0 wr:World}
set_option maxHeartbeats 4000000
set_option maxRecDepth 20000
open Go.RowKit

theorem tot_one (h:Stm w g gs vp vf room cs fr) (k:Stm w g gs vp' vf' room cs' fr'):tot cs=tot cs':=by
  have e1:vp=vp':=Option.some.inj (h.sl.c2.symm.trans k.sl.c2);subst e1;have hp:=h.sl.pls;have kp:=k.sl.pls;obtain ⟨a1,c1,q1⟩:=lst_slice hp;obtain ⟨a2,c2,q2⟩:=lst_slice kp;rw [q1] at q2;injection q2 with _ e2 _;have hl:cs.length=cs'.length:=by simpa using e2
  have hc:∀i,i<cs.length→cc cs i=cc cs' i:=fun i hi=>by
    obtain ⟨b,c,e,_⟩:=lst_pos hp (by simp;omega);have hp':=hp;have kp':=kp;rw [e] at hp';have e3:vp=.slice (some ⟨b,0,none⟩) (cs'.map pl).length c:=by rw [e];simp [hl]
    rw [e3] at kp';have hm:i * (71+1)<(cs.map pl).length * (71+1):=Nat.mul_lt_mul_of_pos_right (by simpa using hi) (by omega);have c1:=lst_cell hp' (i * (71+1)) hm;have c2:=lst_cell kp' (i * (71+1)) (by simpa [hl] using hm);rw [flatS_count h.sl.wid i (by simpa using hi)] at c1;rw [flatS_count k.sl.wid i (by simp;omega)] at c2;rw [c1] at c2;injection c2 with c2;injection c2 with _ c2;rw [cnt_pl,cnt_pl] at c2;omega
  unfold tot;congr 1
  apply List.ext_getElem (by simpa using hl);intro i h1 h2;have:=hc i (by simpa using h1);have h1':i<cs.length:=by simpa using h1
  have h2':i<cs'.length:=by simpa using h2
  simpa [cc,h1',h2'] using this

theorem tot_fun (g gs room:Nat):∃mea:World→Nat,∀w vp vf cs fr,Stm w g gs vp vf room cs fr→mea w=tot cs:=by
  have h:∀w:World,∃m:Nat,∀vp vf cs fr,Stm w g gs vp vf room cs fr→m=tot cs:=fun w=>by
    by_cases e:∃vp vf cs fr,Stm w g gs vp vf room cs fr
    · obtain ⟨vp,vf,cs,fr,h⟩:=e
      exact ⟨tot cs,fun vp' vf' cs' fr' k=>tot_one h k⟩
    · exact ⟨0,fun vp vf cs fr k=>absurd ⟨vp,vf,cs,fr,k⟩ e⟩
  exact ⟨fun w=>Classical.choose (h w),fun w=>Classical.choose_spec (h w)⟩

theorem drop_more (s:Stm w g gs vp vf room cs fr) (i:Nat) (hc:1<cc cs i):Kc 173 #[.pointer (some ⟨gs,0,none⟩),.int .i64 ((i+1:Nat):Int)] w fun e w'=>e=.returned (.tuple #[.bool false,.int .i64 0])∧STurn w g gs (stB g gs vp vf cs) room (lessC cs i) fr w':=by
  refine (drop_moreC gs vp vf room _ fr _ i w s.sl rfl (by rw [cnt_pl];omega) (by rw [cnt_pl];exact hc)).mono ?_;rintro e w' ⟨rfl,t⟩;have hl:=cc_lt (cs:=cs) (i:=i) (by omega);rw [cnt_pl,thg_pl cs i hl,map_set] at t;refine ⟨rfl,s.turn' (Below.refl _ _) t (fun j=>.inr ⟨j,?_⟩)⟩;have e:ce (lessC cs i) j=ce cs j:=by
    unfold lessC;rw [ce_set cs i j _ hl];split
    · next e=>rw [e]
    · rfl
  rw [e];exact ⟨rfl,rfl⟩

theorem drop_last (s:Stm w g gs vp vf room cs fr) (i:Nat) (hc:cc cs i=1):Kc 173 #[.pointer (some ⟨gs,0,none⟩),.int .i64 ((i+1:Nat):Int)] w fun e w'=>e=.returned (.tuple #[.bool true,.int .i64 0])∧STurn w g gs (stB g gs vp vf cs) room (cs.set i (0,zc)) (fr++[i+1]) w':=by
  refine (drop_lastC gs vp vf room _ fr _ i w s.sl rfl (by rw [cnt_pl];omega) (by rw [cnt_pl];exact hc)).mono ?_;rintro e w' ⟨rfl,t⟩;have hl:=cc_lt (cs:=cs) (i:=i) (by omega);rw [← cz_zc,map_set] at t;refine ⟨rfl,s.turn' (Below.refl _ _) t (fun j=>?_)⟩;rw [ce_set cs i j _ hl];split
  · exact .inl ⟨rfl,rfl⟩
  · exact .inr ⟨j,rfl,rfl⟩

theorem dropS_miss (s:Stm w g gs vp vf room cs fr) (hw:Wf cs pend) (h:Int) (hm:cot cs h≤(cat cs h).ab):Kc 97 #[.pointer (some ⟨g,0,none⟩),.int .i64 h] w fun e w'=>e=.returned (.tuple #[.int .i64 0,.int .i64 7])∧Kb w w':=by
  have c0:=s.c0;have HH:=hidden (held_any (vw_ok s hw) h);rw [show cot cs h-(cat cs h).ab=0 by omega] at HH;clear s hw hm;go_enter Tryz.func97,Tryz.ntmps97
  go_wp2_with (first
    |(go_at_call 75;refine (madeS_ok g _ c0).mono ?_;rintro e w' ⟨rfl,hx⟩;rw [hx];clear hx w')
    |(go_at_call 172;refine HH.out.mono ?_;rintro e w1 ⟨rfl,b1⟩))
  go_ret2;exact ⟨rfl,b1⟩

theorem ne0_rev (h:Nat):(ne0 h).reverse=ne0 h:=by
  unfold ne0;split <;> rfl

theorem lst_one (w:World) (b:Nat) (x:Nat) (h:Blk w b 3 #[.int .i64 (x:Int)]):Lst w 3 1 (.slice (some ⟨b,0,none⟩) 1 1) 1 (nats [x]):=⟨by simp [nats],.inr ⟨b,1,_,rfl,Nat.zero_le _,h,by omega,by decide,by simp,by simp [nats]⟩⟩

theorem dropS_ok (s:Stm w g gs vp vf room cs fr) (hw:Wf cs []) (i:Nat) (ho:0<own cs [] i):Kc 97 #[.pointer (some ⟨g,0,none⟩),.int .i64 ((i+1:Nat):Int)] w fun e w'=>∃cs' fr' n,Run cs fr [i+1] cs' fr' n∧e=.returned (.tuple #[.int .i64 (n:Int),.int .i64 0])∧STurn w g gs (stB g gs vp vf cs) room cs' fr' w':=by
  have c0:=s.c0;have hcat:cat cs (((i+1:Nat):Int))=ce cs i:=by rw [cat_nat];rfl
  have hcot:cot cs (((i+1:Nat):Int))=cc cs i:=by unfold cot;rw [if_pos (by omega),show ((i+1:Nat):Int)-1=(i:Int) by omega,Int.toNat_natCast]
  have HH:=hidden (held_any (vw_ok s hw) ((i+1:Nat):Int));rw [hcat,hcot] at HH;obtain ⟨q,hq⟩:∃q,q=cc cs i-(ce cs i).ab:=⟨_,rfl⟩;rw [← hq] at HH;have hq0:((q:Int) == 0)=false:=by
    have h1:=hw.own i;rw [List.count_nil] at h1;simp;omega
  have HW1:=hidden (hw.less i ho);obtain ⟨mea,hmea⟩:=tot_fun g gs room;have HME:=hidden hmea;have HFL:Hid (∀w' vp' vf' cs' fr',Stm w' g gs vp' vf' room cs' fr'→fr'.length≤65536∧noc cs'≤65536∧∀j,cc cs' j≤1073741824):=fun w' vp' vf' cs' fr' t=>by
    have h1:=t.sl.inv.frlen;have h2:=t.sl.inv.len;have h3:=t.sl.inv.r2;have h4:=t.sl.inv.sum;refine ⟨by omega,?_,fun j=>?_⟩
    · show occs _≤_
      omega
    · have:=t.sl.inv.most j
      rwa [cnt_pl] at this
  have HS:=hidden s;obtain ⟨h,hh⟩:∃h:Int,h=((i+1:Nat):Int):=⟨_,rfl⟩;rw [← hh] at HH;rw [← hh];have HHH:=hidden hh;obtain ⟨S,hS⟩:∃S,S=stB g gs vp vf cs:=⟨_,rfl⟩;rw [← hS];have HSS:=hidden hS;clear s hw ho hcat hcot hq hmea hh hS;go_enter Tryz.func97,Tryz.ntmps97
  go_wp2_with (first
    |(go_at_call 75;refine (madeS_ok g _ c0).mono ?_;rintro e w' ⟨rfl,hx⟩;rw [hx];clear hx w')
    |(go_at_call 172;refine HH.out.mono ?_;rintro e w1 ⟨rfl,b1⟩;have Hb1:=hidden b1;clear b1))
  have HD0:Hid (Dl w S g gs room cs fr (.slice (some ⟨w1.heap.size,0,none⟩) 1 1) [i+1] [] (w1.alloc (.cells #[.int .i64 h] 3))):=by
    have b2:=grow_trans Hb1.out (grow_alloc w1 (.cells #[.int .i64 h] 3));rw [HSS.out];refine ⟨vp,vf,HS.out.grow b2,Mod.of_below b2 _,fun _ hk=>.inl hk,?_,fun k hk=>?_,fun x hx=>by cases hx⟩
    · refine lst_one _ _ (i+1) ?_
      rw [← HHH.out];exact Blk.new _ _ _
    · simp only [Value.ownBlock,Option.some.injEq] at hk
      subst hk;refine ⟨Hb1.out.size,fun e=>?_⟩;have:=(HS.out.grow Hb1.out).lts _ e;omega
  have HI0:Hid (Wf cs [i+1]∧0+noc cs≤65536∧1≤fr.length+1∧∀cs' fr' m,Run cs fr [i+1] cs' fr' m→Run cs fr [i+1] cs' fr' (0+m)):=⟨HW1.out,by have:=(HFL.out _ _ _ _ _ HS.out).2.1;omega,by omega,fun _ _ m h=>by rwa [Nat.zero_add]⟩;clear HS HW1 HHH Hb1;generalize w1.alloc (.cells #[.int .i64 h] 3)=w2 at *;generalize w1.heap.size=b0 at *
  go_loopw [1,6,7] (fun hv fv nv wr=>∃(h1:Int) (n:Nat) (cs1:Lz) (fr1 st:List Nat) (a:Option Addr) (c:Nat),hv=.int .i64 h1∧fv=.int .i64 (n:Int)∧nv=.slice a st.length c∧Hid (Dl w S g gs room cs1 fr1 (.slice a st.length c) st.reverse [] wr)∧Hid (Wf cs1 st∧n+noc cs1≤65536∧st.length≤fr1.length+1∧∀cs' fr' m,Run cs1 fr1 st cs' fr' m→Run cs fr [i+1] cs' fr' (n+m))) (fun _ _ _ wr=>mea wr)
  case atStart=>exact ⟨h,0,cs,fr,[i+1],_,_,rfl,rfl,rfl,HD0,HI0⟩
  case round=>
    clear HD0 HI0;obtain ⟨h1,n,cs1,fr1,st,a,c,rfl,rfl,rfl,hD,hI⟩:=hrel;cases st with
    | nil=>
      have HRUN:=hidden (hI.out.2.2.2 _ _ _ (Run.done cs1 fr1));have HT:=hidden hD.out.turned;clear hD hI;go_wp2
      go_ret2;exact ⟨cs1,fr1,n,HRUN.out,rfl,HT.out⟩
    | cons hj st1=>
      obtain ⟨hW,hN,hLn,hR⟩:=hI.out;obtain ⟨j,rfl⟩:∃j,hj=j+1:=⟨hj-1,by have:=hW.pos hj (by simp);omega⟩;have hcj:1≤cc cs1 j:=by
        have:=hW.le j;rw [List.count_cons_self] at this;omega
      have hD1:=hD.out;rw [List.reverse_cons] at hD1;obtain ⟨b,c',hv,hcap,hcell⟩:=hD1.last;rw [List.length_reverse] at hv hcap hcell;injection hv with e1 e2 e3;subst e1;subst e3;have HDP:Hid (Dl w S g gs room cs1 fr1 (.slice (some ⟨b,0,none⟩) st1.length c) st1.reverse [] wr):=by
        have h0:=hD1;rw [show ((j+1)::st1).length=(st1.reverse++[j+1]).length by simp] at h0;have h1:=h0.pop;rw [List.length_reverse] at h1;exact h1
      have hFL:fr1.length≤65536:=by
        obtain ⟨vp1,vf1,q1,_⟩:=hD.out;exact (HFL.out _ _ _ _ _ q1).1
      have HNj:=hidden (hW.tr j (by omega));have HOK:=hidden (hW.ok j);have HAT:Hid (Kr wr 125 #[.pointer (some ⟨g,0,none⟩),.int .i64 ((j+1:Nat):Int)] (.agg (cz (ce cs1 j)).toArray)):=fun w' hb=>by
        obtain ⟨vp1,vf1,q1,_⟩:=hD.out;have:=(vw_ok q1 hW).atv w' ((j+1:Nat):Int) hb;rwa [cat_nat] at this
      have hl1:st1.length≤65537:=by simp only [List.length_cons] at hLn;omega
      have HW1:=hidden hW;have HRR:=hidden hR;have HNN:=hidden hN;have HLL:=hidden hLn;have HL1:=hidden hl1;have HME0:Hid (mea wr=tot cs1):=by
        obtain ⟨vp1,vf1,q1,_⟩:=hD.out;exact HME.out _ _ _ _ _ q1
      obtain ⟨y,hy⟩:∃y:Int,y=((j+1:Nat):Int):=⟨_,rfl⟩;rw [← hy] at hcell HAT;have HY:=hidden hy;obtain ⟨k,hk⟩:∃k,k=ce cs1 j:=⟨_,rfl⟩;rw [← hk] at HAT HOK;have HKE:=hidden hk;obtain ⟨m,hm⟩:∃m,m=st1.length:=⟨_,rfl⟩;rw [← hm] at hcap hcell HDP hl1;have HM:=hidden hm;have i0:(0:Int)≤(m:Int):=by omega
      have i1:(m:Int)<(m:Int)+1:=by omega
      have i1':(m:Int)<((m+1:Nat):Int):=by omega
      have i2:(m:Int)≤(c:Int):=by omega
      have i3:(0:Int)<((m+1:Nat):Int):=by omega
      have hwm:wrap64 (m:Int)=(m:Int):=Go.IntWalk.wrap64_in _ (by omega);rw [List.length_cons,← hm];have hnb:n≤65536:=by omega
      have hwn:wrap64 ((n:Int)+1)=((n+1:Nat):Int):=by rw [Go.IntWalk.wrap64_in _ (by omega)];rfl
      have HFR:=hidden hFL;clear hD hI hW hN hLn hR hD1 hy hk hm e2 hl1 hFL hnb
      go_wp2_with fail
      go_quiet (fail)
      have HB2:Hid (Kb wr (wr.drewN nq)):=below_drewN (Below.refl _ _) nq;generalize wr.drewN nq=w2' at *;rcases Nat.lt_or_eq_of_le hcj with hgt | heq
      · have HC:=hidden hgt
        clear hcj hgt
        go_wp2_with (first
          |(go_at_call 125;refine (HAT.out _ HB2.out).mono ?_;rintro e w3 ⟨rfl,b3⟩;have HB3:=hidden b3;clear b3)
          |((with_reducible refine at_ald 9 ?_);refine wpList_al _ rfl _ rfl _ zero_thC ?_;intro w4 b9 hg9 hl9 B9 b4;have HB9:=hidden B9;have Hg9:=hidden hg9;have HB4:=hidden b4;clear hg9 hl9 B9 b4)
          |((with_reducible refine at_st 9 ?_);refine wpList_sto _ rfl _ _ _ rfl b9 _ (cz k).toArray rfl rfl HB9.out (xszC _ (cz_th HOK.out)) (xzsC _ (cz_th HOK.out)) (all_oneCell_toArray (cz_one HOK.out)) ?_;intro w5 B5 r5;have hq5:=below_row (grow_trans (grow_trans HB2.out HB3.out) HB4.out) r5 (by have:=Hg9.out;have:=HB3.out.size;have:=HB2.out.size;omega);have HD5:=hidden (HDP.out.hold hq5 (by have:=Hg9.out;have:=HB3.out.size;have:=HB2.out.size;omega) B5);have c1:=HD5.out.c01.2;clear hq5 B5 r5)
          |(go_at_call 173;rw [HY.out];refine (HD5.out.use (fun vp vf q=>drop_more q j HC.out)).mono ?_;rintro e w6 ⟨rfl,d6⟩;have HD6:=hidden d6;clear d6))
        have hst:=step_less HW1.out HC.out;have htt:=tot_less cs1 j (by have:=HC.out;omega);have hmm:mea w6=tot (lessC cs1 j):=by
          obtain ⟨vp1,vf1,q1,_⟩:=HD6.out;exact HME.out _ _ _ _ _ q1
        have hdl:Dl w S g gs room (lessC cs1 j) fr1 (.slice (some ⟨b,0,none⟩) st1.length c) st1.reverse [] w6:=by
          have:=HD6.out.less (Y:=[]) (fun _ h=>by cases h);rw [HM.out] at this;exact this
        refine ⟨⟨_,n,lessC cs1 j,fr1,st1,some ⟨b,0,none⟩,c,rfl,rfl,by rw [HM.out],hdl,hst.wf,?_,?_,fun cs' fr' q hq=>HRR.out _ _ _ (Run.keep HC.out hq)⟩,?_⟩
        · have:=hst.noc
          have:=HNN.out;omega
        · have:=HLL.out
          simp only [List.length_cons] at this;omega
        · rw [hmm,HME0.out]
          omega
      · have HC:Hid (cc cs1 j=1):=heq.symm
        clear hcj heq;have HZ1:Hid (Wz (cs1.set j (0,zc))):=HW1.out.z.set j 0 zc zc_ok (fun _=>rfl);have hsides:=Wf.sides HW1.out.ab HW1.out.le j (by have:=HC.out;omega);obtain ⟨nl,nr⟩:=HNj.out.side_ne rfl;rw [← HKE.out] at hsides nl nr;have hside:∀q,(q=k.l∨q=k.r)→q=0∨1≤q∧0<cc (cs1.set j (0,zc)) (q-1)∧1≤(ce (cs1.set j (0,zc)) (q-1)).ab∧(ce (cs1.set j (0,zc)) (q-1)).ab≤1073741824:=fun q hq=>by
          by_cases e:q=0
          · exact .inl e
          · have h1:=hsides q hq e
            have hne:q-1≠j:=fun e2=>by
              rcases hq with e3 | e3
              · exact nl (by omega)
              · exact nr (by omega)
            have hjl:=cc_lt (cs:=cs1) (i:=j) (by have:=HC.out;omega);have h2:=ns_pos cs1 (q-1) j (by have:=HC.out;omega) (by rw [← HKE.out];exact hq.elim (fun e=>.inl (by omega)) (fun e=>.inr (by omega)));have h3:=HW1.out.ab (q-1);have h4:=HW1.out.le (q-1);have h5:cc cs1 (q-1)≤1073741824:=by
              obtain ⟨vp1,vf1,q1,_⟩:=HDP.out;exact (HFL.out _ _ _ _ _ q1).2.2 _
            refine .inr ⟨by omega,?_⟩;rw [cc_set cs1 j _ _ hjl,ce_set cs1 j _ _ hjl,if_neg hne,if_neg hne];omega
        have a1:=dnA_of (cs1.set j (0,zc)) k.r;have HZ2:Hid (Wz (dnA (cs1.set j (0,zc)) k.r)):=by
          rcases hside k.r (.inr rfl) with e | ⟨e1,e2,e3,e4⟩
          · have:dnA (cs1.set j (0,zc)) k.r=cs1.set j (0,zc):=by unfold dnA;rw [if_pos e]
            rw [this];exact HZ1
          · have:dnA (cs1.set j (0,zc)) k.r=setA (cs1.set j (0,zc)) k.r ((ce (cs1.set j (0,zc)) (k.r-1)).ab-1):=by unfold dnA;rw [if_neg (by omega)]
            rw [this];exact HZ1.out.setA _ _ e2
        have HSR:=hidden (hside k.r (.inr rfl));have HSL:Hid (k.l=0∨1≤k.l∧0<cc (dnA (cs1.set j (0,zc)) k.r) (k.l-1)∧1≤(ce (dnA (cs1.set j (0,zc)) k.r) (k.l-1)).ab∧(ce (dnA (cs1.set j (0,zc)) k.r) (k.l-1)).ab≤1073741824):=by
          rcases hside k.l (.inl rfl) with e | ⟨e1,e2,e3,e4⟩
          · exact .inl e
          · have hne:k.l≠k.r:=by
              rcases HNj.out with hh | hh
              · have:=hh.l
                rw [← HKE.out] at this;omega
              · rw [← HKE.out] at hh
                exact sides_ne hh (by omega)
            refine .inr ⟨e1,by rw [a1.cc];exact e2,?_⟩;have hb:k.r-1<(cs1.set j (0,zc)).length∨k.r=0:=by
              rcases hside k.r (.inr rfl) with e | ⟨_,e,_⟩
              · exact .inr e
              · exact .inl (cc_lt e)
            rw [dnA_ab _ _ _ hb,if_neg (by omega)];exact ⟨by omega,by omega⟩
        have HKL:Hid ((cz k)[69]?=some (.int .i64 (k.l:Int))∧(cz k)[70]?=some (.int .i64 (k.r:Int))):=⟨(cz_at k HOK.out).2.2.2.2.2.1,(cz_at k HOK.out).2.2.2.2.2.2⟩;have HLR:Hid (∀x,(ne0 x).length≤1):=fun x=>by unfold ne0;split <;> simp
        clear hsides nl nr hside a1
        go_wp2_with (first
          |(go_at_call 125;refine (HAT.out _ HB2.out).mono ?_;rintro e w3 ⟨rfl,b3⟩;have HB3:=hidden b3;clear b3)
          |((with_reducible refine at_ald 9 ?_);refine wpList_al _ rfl _ rfl _ zero_thC ?_;intro w4 b9 hg9 hl9 B9 b4;have HB9:=hidden B9;have Hg9:=hidden hg9;have HB4:=hidden b4;clear hg9 hl9 B9 b4)
          |((with_reducible refine at_st 9 ?_);refine wpList_sto _ rfl _ _ _ rfl b9 _ (cz k).toArray rfl rfl HB9.out (xszC _ (cz_th HOK.out)) (xzsC _ (cz_th HOK.out)) (all_oneCell_toArray (cz_one HOK.out)) ?_;intro w5 B5 r5;have hq5:=below_row (grow_trans (grow_trans HB2.out HB3.out) HB4.out) r5 (by have:=Hg9.out;have:=HB3.out.size;have:=HB2.out.size;omega);have HD5:=hidden (HDP.out.hold hq5 (by have:=Hg9.out;have:=HB3.out.size;have:=HB2.out.size;omega) B5);have c1:=HD5.out.c01.2;clear hq5 B5 r5)
          |(go_at_call 173;rw [HY.out];refine (HD5.out.use (fun vp vf q=>drop_last q j HC.out)).mono ?_;rintro e w6 ⟨rfl,d6⟩;have HD6:=hidden d6;have B6:=d6.held (List.mem_cons_self ..);have e6:=B6.cell 70;simp only [List.getElem?_toArray] at e6;rw [HKL.out.2] at e6;clear d6 B6)
          |(go_at_call 174;have mk:=m1;clear mk;refine (letGo_any HD7.out HZ2.out k.l HSL.out (by have:=HL1.out;have:=HLR.out k.r;rw [List.length_append,List.length_reverse];omega)).mono ?_;rintro e w8 ⟨a8,q8,c8,rfl,hq8,d8⟩;have HQ8:=hidden hq8;have HD8:=hidden d8;clear d8 hq8)
          |(go_at_call 174;refine (letGo_any HD6.out HZ1.out k.r HSR.out (by have:=HL1.out;rw [List.length_reverse];omega)).mono ?_;rintro e w7 ⟨a7,q7,c7,rfl,hq7,d7⟩;clear hq7;have HD7:=hidden d7;have B7:=d7.held (List.mem_cons_self ..);have e7:=B7.cell 69;simp only [List.getElem?_toArray] at e7;rw [HKL.out.1] at e7;have m1:Hid True:=trivial;clear d7 B7))
        have hst:=step_free HW1.out HC.out;have htt:=tot_free cs1 j HC.out;have hE:(ne0 (ce cs1 j).l++(ne0 (ce cs1 j).r++st1)).reverse=st1.reverse++ne0 k.r++ne0 k.l:=by rw [← HKE.out,List.reverse_append,List.reverse_append,ne0_rev,ne0_rev]
        have hF:dnA (dnA (cs1.set j (0,zc)) k.r) k.l=freeC cs1 j:=by unfold freeC;rw [← HKE.out]
        have hd8:=HD8.out;rw [← hE,hF] at hd8;have hq8:=HQ8.out;rw [← hE,List.length_reverse] at hq8;rw [hq8] at hd8;have hmm:mea w8=tot (freeC cs1 j):=by
          obtain ⟨vp1,vf1,q1,_⟩:=hd8;exact HME.out _ _ _ _ _ q1
        refine ⟨⟨_,n+1,freeC cs1 j,fr1++[j+1],ne0 (ce cs1 j).l++(ne0 (ce cs1 j).r++st1),a8,c8,rfl,by go_num,by rw [hq8],hd8.less (fun _ h=>by cases h),hst.wf,?_,?_,fun cs' fr' q hq=>?_⟩,?_⟩
        · have:=hst.noc
          have:=HNN.out;omega
        · have:=HLL.out
          have h1:=HLR.out (ce cs1 j).l;have h2:=HLR.out (ce cs1 j).r;simp only [List.length_cons] at this;simp only [List.length_append,List.length_singleton];omega
        · have:=HRR.out _ _ _ (Run.free HC.out hq)
          rwa [show n+(q+1)=n+1+q by omega] at this
        · rw [hmm,HME0.out]
          omega

end Go.Proofs.YtdjpigfibafokaaGreatDoor

namespace Go.Proofs.YtdjpigfibafokaaGreatDoor
variable {S fr fr' pend:List Nat}
variable {b c g gs h room x:Nat}
variable {cs cs':Lz}
variable {v v' vf vf' vp vp':Value}
variable {w w' w0 wr:World}
set_option maxHeartbeats 4000000
set_option maxRecDepth 20000
open Go.RowKit

def Hw (w0 w:World) (g gs room:Nat) (cs:Lz) (fr:List Nat):Prop:=(∃vp vf,Stm w g gs vp vf room cs fr∧(∀k∈stB g gs vp vf cs,w0.heap.size≤k)∧Kb w0 w)∧Wf cs []

theorem leaf_ok (K:Lq) (v:Value) (bs:Lq) (hb:Bytes bs) (hl:bs.length≤1024):LeafOk (lfC (lfD K (vaD bs)) K v bs):=⟨rfl,rfl,rfl,rfl,rfl,rfl,hl,hb⟩

theorem Wf.kinds (w:Wf cs pend) (i:Nat) (hi:0<cc cs i):(ce cs i).kind=1∨(ce cs i).kind=2:=by
  rcases w.tr i hi with h | h
  · exact .inl h.kind
  · exact .inr h.kind

theorem side_fit (w:Wf cs pend) {h d:Nat} {b:Int} (m:mayP cs (h:Int)) (hf:fsP (sdC cs h) d b=true):SideOk cs d b h:=by
  rcases m.side with e | ⟨h1,h2,h3⟩
  · exact .inl e
  · refine .inr ⟨h1,h2,?_⟩
    unfold sdC at hf;rw [if_neg (by omega)] at hf;unfold fsP at hf;rcases w.kinds _ h2 with k | k
    · rw [if_pos k] at hf
      exact ⟨by simpa using hf,.inl k⟩
    · rw [if_neg (by omega),if_pos k] at hf
      simp only [Bool.and_eq_true,decide_eq_true_eq] at hf;exact ⟨hf.2,.inr ⟨k,hf.1⟩⟩

theorem kind0 (w:Wf cs pend) {h:Nat} (m:mayP cs (h:Int)):(sdC cs h).kind=0↔h=0:=by
  constructor
  · intro e
    rcases m.side with e2 | ⟨h1,h2,h3⟩
    · exact e2
    · unfold sdC at e
      rw [if_neg (by omega)] at e;rcases w.kinds _ h2 with k | k <;> omega
  · rintro rfl
    rfl

theorem inn_ok (w:Wf cs pend) {d l r:Nat} {K:Lq} {u:Bool} (hd:d<256) (ml:mayP cs (l:Int)) (mr:mayP cs (r:Int)) (hu:u=true↔Und (sdC cs l).key (sdC cs r).key (d:Int)) (hf:fitP d (sdC cs l) (sdC cs r) u=true) (hK:IsFill (if (sdC cs l).kind=0 then (sdC cs r).key else (sdC cs l).key) d 0 K):InnOk cs (inC (inD (sdD cs l) (sdD cs r)) K ((sdC cs l).sz+(sdC cs r).sz) d l r):=by
  unfold fitP at hf;simp only [Bool.and_eq_true,Bool.or_eq_true,decide_eq_true_eq] at hf;obtain ⟨h1,h2,h3,h4⟩:=hf;refine ⟨rfl,hd,rfl,rfl,side_fit w ml h2,side_fit w mr h3,rfl,h1,fun hl hr=>?_,?_,rfl⟩
  · rcases h4 with h4 | h4 | h4
    · exact absurd ((kind0 w ml).1 h4) hl
    · exact absurd ((kind0 w mr).1 h4) hr
    · exact hu.1 h4
  · by_cases e:l=0
    · have:=(kind0 w ml).2 e
      rw [if_pos this] at hK;show IsFill (if l=0 then _ else _) d 0 K;rw [if_pos e];exact hK
    · have: ¬(sdC cs l).kind=0:=fun q=>e ((kind0 w ml).1 q)
      rw [if_neg this] at hK;show IsFill (if l=0 then _ else _) d 0 K;rw [if_neg e];exact hK

theorem mayP.own (m:mayP cs (h:Int)) (h0:h≠0):0<Go.Proofs.YtdjpigfibafokaaGreatDoor.own cs [] (h-1):=by
  rcases m.side with e | ⟨_,_,e⟩
  · exact absurd e h0
  · unfold Go.Proofs.YtdjpigfibafokaaGreatDoor.own
    rw [List.count_nil];omega

end Go.Proofs.YtdjpigfibafokaaGreatDoor
