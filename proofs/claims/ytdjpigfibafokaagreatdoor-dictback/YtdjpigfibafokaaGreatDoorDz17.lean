/- Calls of a store, as contracts: whether sides fit a depth; a node that is a side once more, or once less. -/
import Derived.Test.YtdjpigfibafokaaGreatDoorDz01
import Derived.Test.YtdjpigfibafokaaGreatDoorDz16
import Derived.Test.YtdjpigfibafokaaGreatDoorDz02
import Derived.Test.YtdjpigfibafokaaGreatDoorDz09
namespace Go.Proofs.YtdjpigfibafokaaGreatDoor
variable {b g gs i room:Nat}
variable {cs:Lz}
variable {fr:List Nat}
variable {sp:Lq}
variable {v vf vp:Value}
variable {w w' w0 w1:World}
set_option maxHeartbeats 4000000
set_option maxRecDepth 20000
open Go.RowKit

def fitP (d:Nat) (L R:Ce) (u:Bool):Bool:=decide (2≤L.sz+R.sz) && (fsP L d 0 && (fsP R d 1 && (decide (L.kind=0) || (decide (R.kind=0) || u))))

theorem fit_any (d:Nat) (L R:Ce) (u:Bool) (w:World) (hL:CeOk L) (hR:CeOk R) (hd:d<256) (sL:L.sz≤65536) (sR:R.sz≤65536) (hu:u=true↔Und L.key R.key (d:Int)):Kc 267 #[.int .i64 (d:Int),.agg (cz L).toArray,.agg (cz R).toArray] w fun e w'=>e=.returned (.bool (fitP d L R u))∧Kb w w':=by
  have HOL:=hidden hL;have HOR:=hidden hR;have HFL:Hid (∀w',Kc 303 #[.agg (cz L).toArray,.int .i64 (d:Int),.int .i64 0] w' fun e w''=>e=.returned (.bool (fsP L d 0))∧Below w'.heap.size w' w''):=fun w'=>fits_any L d 0 w' hL hd
  have HFR:Hid (∀w',Kc 303 #[.agg (cz R).toArray,.int .i64 (d:Int),.int .i64 1] w' fun e w''=>e=.returned (.bool (fsP R d 1))∧Below w'.heap.size w' w''):=fun w'=>fits_any R d 1 w' hR hd
  have HU:Hid (∀w',Kc 181 #[.agg (B L.key),.agg (B R.key),.int .i64 (d:Int)] w' fun e w''=>e=.returned (.bool u)∧Below w'.heap.size w' w''):=fun w'=>under_at L.key R.key d u w' hL.hk hR.hk hu
  have hws:wrap64 ((L.sz:Int)+(R.sz:Int))=(L.sz:Int)+(R.sz:Int):=Go.IntWalk.wrap64_in _ (by omega);have hV:fitP d L R u=(decide (2≤L.sz+R.sz) && (fsP L d 0 && (fsP R d 1 && (decide (L.kind=0) || (decide (R.kind=0) || u))))):=rfl;obtain ⟨kL,hkL⟩:∃k,k=L.kind:=⟨_,rfl⟩;obtain ⟨kR,hkR⟩:∃k,k=R.kind:=⟨_,rfl⟩;obtain ⟨zL,hzL⟩:∃k,k=L.sz:=⟨_,rfl⟩;obtain ⟨zR,hzR⟩:∃k,k=R.sz:=⟨_,rfl⟩;rw [← hkL,← hkR,← hzL,← hzR] at hV;rw [← hzL,← hzR] at hws;have HkL:=hidden hkL;have HkR:=hidden hkR;have HzL:=hidden hzL;have HzR:=hidden hzR;clear hkL hkR hzL hzR hu sL sR hL hR hd
  by_cases h2:2≤zL+zR
  · have i2: ¬(zL:Int)+(zR:Int)<2:=by omega
    cases hfL:fsP L d 0 with
    | false=>
      rw [show fitP d L R u=false by rw [hV,hfL];simp];clear hV h2;go_enter Tryz.func267,Tryz.ntmps267
      go_wp2_with (first
        |((with_reducible refine at_bxd 4 ?_);refine wpList_bx _ rfl _ _ rfl _ rfl ?_;intro w1 b4 hg4 hl4 B4 b1;have HB4:=hidden B4;have Hl4:=hidden hl4;clear hg4 hl4 B4)
        |((with_reducible refine at_bxd 5 ?_);refine wpList_bx _ rfl _ _ rfl _ rfl ?_;intro w2 b5 hg5 hl5 B5 b2;have HB5:=hidden B5;have HB4':=hidden (HB4.out.grow b2);have e4:=HB4'.out.cell 34;have e5:=HB5.out.cell 34;simp only [List.getElem?_toArray] at e4 e5;rw [(cz_at L HOL.out).2.2.1,← HzL.out] at e4;rw [(cz_at R HOR.out).2.2.1,← HzR.out] at e5;have Hb2:=hidden (grow_trans b1 b2);clear hg5 hl5 B5 b2 b1)
        |((with_reducible refine at_ldd 13 4 ?_);refine wpList_load_mid rfl _ _ rfl b4 0 rfl (cz L) _ HB4'.out.range Tryz.underlying150 rfl (xszC _ (cz_th HOL.out)) ?_)
        |(go_at_call 303;refine (HFL.out _).mono ?_;rw [hfL];rintro e w3 ⟨rfl,b3⟩;have HB4m:=hidden (HB4'.out.grow b3);have HB5m:=hidden (HB5.out.grow b3);have Hb3:=hidden b3;have m1:Hid True:=trivial;clear b3))
      go_ret;exact ⟨rfl,grow_trans Hb2.out Hb3.out⟩
    | true=>
      cases hfR:fsP R d 1 with
      | false=>
        rw [show fitP d L R u=false by rw [hV,hfL,hfR];simp];clear hV h2;go_enter Tryz.func267,Tryz.ntmps267
        go_wp2_with (first
          |((with_reducible refine at_bxd 4 ?_);refine wpList_bx _ rfl _ _ rfl _ rfl ?_;intro w1 b4 hg4 hl4 B4 b1;have HB4:=hidden B4;have Hl4:=hidden hl4;clear hg4 hl4 B4)
          |((with_reducible refine at_bxd 5 ?_);refine wpList_bx _ rfl _ _ rfl _ rfl ?_;intro w2 b5 hg5 hl5 B5 b2;have HB5:=hidden B5;have HB4':=hidden (HB4.out.grow b2);have e4:=HB4'.out.cell 34;have e5:=HB5.out.cell 34;simp only [List.getElem?_toArray] at e4 e5;rw [(cz_at L HOL.out).2.2.1,← HzL.out] at e4;rw [(cz_at R HOR.out).2.2.1,← HzR.out] at e5;have Hb2:=hidden (grow_trans b1 b2);clear hg5 hl5 B5 b2 b1)
          |((with_reducible refine at_ldd 13 4 ?_);refine wpList_load_mid rfl _ _ rfl b4 0 rfl (cz L) _ HB4'.out.range Tryz.underlying150 rfl (xszC _ (cz_th HOL.out)) ?_)
          |(go_at_call 303;have mk:=m1;clear mk;refine (HFR.out _).mono ?_;rw [hfR];rintro e w4 ⟨rfl,b4'⟩;have HB4n:=hidden (HB4m.out.grow b4');have HB5n:=hidden (HB5m.out.grow b4');have Hb4':=hidden b4';have k4:=HB4n.out.cell 32;have k5:=HB5n.out.cell 32;simp only [List.getElem?_toArray] at k4 k5;rw [(cz_at L HOL.out).1,← HkL.out] at k4;rw [(cz_at R HOR.out).1,← HkR.out] at k5;clear b4')
          |(go_at_call 303;refine (HFL.out _).mono ?_;rw [hfL];rintro e w3 ⟨rfl,b3⟩;have HB4m:=hidden (HB4'.out.grow b3);have HB5m:=hidden (HB5.out.grow b3);have Hb3:=hidden b3;have m1:Hid True:=trivial;clear b3)
          |((with_reducible refine at_ldd 18 5 ?_);refine wpList_ldw _ rfl _ _ rfl b5 0 rfl (cz R) _ HB5m.out.range Tryz.underlying150 rfl (xszC _ (cz_th HOR.out)) ?_))
        go_ret;exact ⟨rfl,grow_trans (grow_trans Hb2.out Hb3.out) Hb4'.out⟩
      | true=>
        by_cases k0:kL=0
        · rw [show fitP d L R u=true by rw [hV,hfL,hfR];simp [h2,k0]]
          clear hV h2;subst k0;go_enter Tryz.func267,Tryz.ntmps267
          go_wp2_with (first
            |((with_reducible refine at_bxd 4 ?_);refine wpList_bx _ rfl _ _ rfl _ rfl ?_;intro w1 b4 hg4 hl4 B4 b1;have HB4:=hidden B4;have Hl4:=hidden hl4;clear hg4 hl4 B4)
            |((with_reducible refine at_bxd 5 ?_);refine wpList_bx _ rfl _ _ rfl _ rfl ?_;intro w2 b5 hg5 hl5 B5 b2;have HB5:=hidden B5;have HB4':=hidden (HB4.out.grow b2);have e4:=HB4'.out.cell 34;have e5:=HB5.out.cell 34;simp only [List.getElem?_toArray] at e4 e5;rw [(cz_at L HOL.out).2.2.1,← HzL.out] at e4;rw [(cz_at R HOR.out).2.2.1,← HzR.out] at e5;have Hb2:=hidden (grow_trans b1 b2);clear hg5 hl5 B5 b2 b1)
            |((with_reducible refine at_ldd 13 4 ?_);refine wpList_load_mid rfl _ _ rfl b4 0 rfl (cz L) _ HB4'.out.range Tryz.underlying150 rfl (xszC _ (cz_th HOL.out)) ?_)
            |(go_at_call 303;have mk:=m1;clear mk;refine (HFR.out _).mono ?_;rw [hfR];rintro e w4 ⟨rfl,b4'⟩;have HB4n:=hidden (HB4m.out.grow b4');have HB5n:=hidden (HB5m.out.grow b4');have Hb4':=hidden b4';have k4:=HB4n.out.cell 32;have k5:=HB5n.out.cell 32;simp only [List.getElem?_toArray] at k4 k5;rw [(cz_at L HOL.out).1,← HkL.out] at k4;rw [(cz_at R HOR.out).1,← HkR.out] at k5;clear b4')
            |(go_at_call 303;refine (HFL.out _).mono ?_;rw [hfL];rintro e w3 ⟨rfl,b3⟩;have HB4m:=hidden (HB4'.out.grow b3);have HB5m:=hidden (HB5.out.grow b3);have Hb3:=hidden b3;have m1:Hid True:=trivial;clear b3)
            |((with_reducible refine at_ldd 18 5 ?_);refine wpList_ldw _ rfl _ _ rfl b5 0 rfl (cz R) _ HB5m.out.range Tryz.underlying150 rfl (xszC _ (cz_th HOR.out)) ?_))
          go_ret;exact ⟨rfl,grow_trans (grow_trans Hb2.out Hb3.out) Hb4'.out⟩
        · have k0b:(kL == 0)=false:=by simp [k0]
          by_cases k1:kR=0
          · rw [show fitP d L R u=true by rw [hV,hfL,hfR];simp [h2,k1]]
            clear hV h2 k0;subst k1;go_enter Tryz.func267,Tryz.ntmps267
            go_wp2_with (first
              |((with_reducible refine at_bxd 4 ?_);refine wpList_bx _ rfl _ _ rfl _ rfl ?_;intro w1 b4 hg4 hl4 B4 b1;have HB4:=hidden B4;have Hl4:=hidden hl4;clear hg4 hl4 B4)
              |((with_reducible refine at_bxd 5 ?_);refine wpList_bx _ rfl _ _ rfl _ rfl ?_;intro w2 b5 hg5 hl5 B5 b2;have HB5:=hidden B5;have HB4':=hidden (HB4.out.grow b2);have e4:=HB4'.out.cell 34;have e5:=HB5.out.cell 34;simp only [List.getElem?_toArray] at e4 e5;rw [(cz_at L HOL.out).2.2.1,← HzL.out] at e4;rw [(cz_at R HOR.out).2.2.1,← HzR.out] at e5;have Hb2:=hidden (grow_trans b1 b2);clear hg5 hl5 B5 b2 b1)
              |((with_reducible refine at_ldd 13 4 ?_);refine wpList_load_mid rfl _ _ rfl b4 0 rfl (cz L) _ HB4'.out.range Tryz.underlying150 rfl (xszC _ (cz_th HOL.out)) ?_)
              |(go_at_call 303;have mk:=m1;clear mk;refine (HFR.out _).mono ?_;rw [hfR];rintro e w4 ⟨rfl,b4'⟩;have HB4n:=hidden (HB4m.out.grow b4');have HB5n:=hidden (HB5m.out.grow b4');have Hb4':=hidden b4';have k4:=HB4n.out.cell 32;have k5:=HB5n.out.cell 32;simp only [List.getElem?_toArray] at k4 k5;rw [(cz_at L HOL.out).1,← HkL.out] at k4;rw [(cz_at R HOR.out).1,← HkR.out] at k5;clear b4')
              |(go_at_call 303;refine (HFL.out _).mono ?_;rw [hfL];rintro e w3 ⟨rfl,b3⟩;have HB4m:=hidden (HB4'.out.grow b3);have HB5m:=hidden (HB5.out.grow b3);have Hb3:=hidden b3;have m1:Hid True:=trivial;clear b3)
              |((with_reducible refine at_ldd 18 5 ?_);refine wpList_ldw _ rfl _ _ rfl b5 0 rfl (cz R) _ HB5m.out.range Tryz.underlying150 rfl (xszC _ (cz_th HOR.out)) ?_))
            go_ret;exact ⟨rfl,grow_trans (grow_trans Hb2.out Hb3.out) Hb4'.out⟩
          · have k1b:(kR == 0)=false:=by simp [k1]
            rw [show fitP d L R u=u by rw [hV,hfL,hfR];simp [h2,k0,k1]];clear hV h2 k0 k1;go_enter Tryz.func267,Tryz.ntmps267
            go_wp2_with (first
              |((with_reducible refine at_bxd 4 ?_);refine wpList_bx _ rfl _ _ rfl _ rfl ?_;intro w1 b4 hg4 hl4 B4 b1;have HB4:=hidden B4;have Hl4:=hidden hl4;clear hg4 hl4 B4)
              |((with_reducible refine at_bxd 5 ?_);refine wpList_bx _ rfl _ _ rfl _ rfl ?_;intro w2 b5 hg5 hl5 B5 b2;have HB5:=hidden B5;have HB4':=hidden (HB4.out.grow b2);have e4:=HB4'.out.cell 34;have e5:=HB5.out.cell 34;simp only [List.getElem?_toArray] at e4 e5;rw [(cz_at L HOL.out).2.2.1,← HzL.out] at e4;rw [(cz_at R HOR.out).2.2.1,← HzR.out] at e5;have Hb2:=hidden (grow_trans b1 b2);clear hg5 hl5 B5 b2 b1)
              |((with_reducible refine at_ldd 13 4 ?_);refine wpList_load_mid rfl _ _ rfl b4 0 rfl (cz L) _ HB4'.out.range Tryz.underlying150 rfl (xszC _ (cz_th HOL.out)) ?_)
              |(go_at_call 303;have mk:=m1;clear mk;refine (HFR.out _).mono ?_;rw [hfR];rintro e w4 ⟨rfl,b4'⟩;have HB4n:=hidden (HB4m.out.grow b4');have HB5n:=hidden (HB5m.out.grow b4');have Hb4':=hidden b4';have k4:=HB4n.out.cell 32;have k5:=HB5n.out.cell 32;simp only [List.getElem?_toArray] at k4 k5;rw [(cz_at L HOL.out).1,← HkL.out] at k4;rw [(cz_at R HOR.out).1,← HkR.out] at k5;clear b4')
              |(go_at_call 303;refine (HFL.out _).mono ?_;rw [hfL];rintro e w3 ⟨rfl,b3⟩;have HB4m:=hidden (HB4'.out.grow b3);have HB5m:=hidden (HB5.out.grow b3);have Hb3:=hidden b3;have m1:Hid True:=trivial;clear b3)
              |((with_reducible refine at_ldd 18 5 ?_);refine wpList_ldw _ rfl _ _ rfl b5 0 rfl (cz R) _ HB5m.out.range Tryz.underlying150 rfl (xszC _ (cz_th HOR.out)) ?_)
              |((with_reducible refine at_ldd 33 32 ?_);refine wpList_ldw _ rfl _ _ rfl b4 35 rfl (L.key.map (Value.int .u8)) _ ((segK L HOL.out).range HB4n.out) Tryz.underlying63 rfl (key_sz HOL.out) ?_)
              |((with_reducible refine at_ldd 35 34 ?_);refine wpList_ldw _ rfl _ _ rfl b5 35 rfl (R.key.map (Value.int .u8)) _ ((segK R HOR.out).range HB5n.out) Tryz.underlying63 rfl (key_sz HOR.out) ?_)
              |(go_at_call 181;refine (HU.out _).mono ?_;rintro e w5 ⟨rfl,b5'⟩))
            go_ret;exact ⟨rfl,grow_trans (grow_trans (grow_trans Hb2.out Hb3.out) Hb4'.out) b5'⟩
  · have i2:(zL:Int)+(zR:Int)<2:=by omega
    rw [show fitP d L R u=false by rw [hV];simp [h2]];clear hV h2;go_enter Tryz.func267,Tryz.ntmps267
    go_wp2_with (first
      |((with_reducible refine at_bxd 4 ?_);refine wpList_bx _ rfl _ _ rfl _ rfl ?_;intro w1 b4 hg4 hl4 B4 b1;have HB4:=hidden B4;have Hl4:=hidden hl4;clear hg4 hl4 B4)
      |((with_reducible refine at_bxd 5 ?_);refine wpList_bx _ rfl _ _ rfl _ rfl ?_;intro w2 b5 hg5 hl5 B5 b2;have HB5:=hidden B5;have HB4':=hidden (HB4.out.grow b2);have e4:=HB4'.out.cell 34;have e5:=HB5.out.cell 34;simp only [List.getElem?_toArray] at e4 e5;rw [(cz_at L HOL.out).2.2.1,← HzL.out] at e4;rw [(cz_at R HOR.out).2.2.1,← HzR.out] at e5;have Hb2:=hidden (grow_trans b1 b2);clear hg5 hl5 B5 b2 b1))
    go_ret;exact ⟨rfl,Hb2.out⟩

theorem cz_setAb (c:Ce) (h:c.dig.length=32) (n:Nat):(cz c).set 33 (.int .i64 (n:Int))=cz (reAb c n):=by
  have h1:(c.dig.map (Value.int .u8)).length=32:=by simp [h]
  unfold cz reAb;rw [List.set_append_right _ _ (by omega),h1];rfl

theorem reAb_ok {c:Ce} (h:CeOk c) (n:Nat):CeOk (reAb c n):=⟨h.ld,h.bd,h.hk,h.vs⟩

theorem above_out (s:Stm w g gs vp vf room cs fr) (hw:Wz cs) (h m:Int) (hc:cot cs h=0):Kc 230 #[.pointer (some ⟨g,0,none⟩),.int .i64 h,.int .i64 m] w fun e w'=>e=.returned (.tuple #[])∧Kb w w':=by
  have c1:=s.c1;have HG:=hidden (get_any s hw h);rw [if_pos hc] at HG;have hz:=cz_th (hw.catOk h);generalize cz (cat cs h)=z at HG hz;have HZ:=hidden hz;clear s hw hz hc;go_enter Tryz.func230,Tryz.ntmps230
  go_wp2_with (first
    |(go_at_call 204;refine HG.out.mono ?_;rintro e w2 ⟨rfl,b2⟩;have Hb2:=hidden b2;clear b2)
    |((with_reducible refine at_ald 6 ?_);refine wpList_al _ rfl _ rfl _ zero_thC ?_;intro w3 b6 hg6 hl6 B6 b3;have Hb3:=hidden b3;have HB6:=hidden B6;have Hg6:=hidden hg6;clear b3 B6 hg6 hl6)
    |((with_reducible refine at_st 6 ?_);refine wpList_sto _ rfl _ _ _ rfl b6 _ z.toArray rfl rfl HB6.out (xszC z HZ.out) (xzsC z HZ.out) (all_oneCell_toArray HZ.out.2) ?_;intro w4 B7 g7))
  refine bodyPost_ret (results_none rfl _ _ _) rfl ?_;exact ⟨rfl,below_row (grow_trans Hb2.out Hb3.out) g7 (by have:=Hg6.out;have:=Hb2.out.size;omega)⟩

theorem above_in (s:Stm w g gs vp vf room cs fr) (hw:Wz cs) (i n:Nat) (m:Int) (hc:0<cc cs i) (hn:((ce cs i).ab:Int)+m=(n:Int)) (hn2:n≤2147483648):Kc 230 #[.pointer (some ⟨g,0,none⟩),.int .i64 ((i:Int)+1),.int .i64 m] w fun e w'=>e=.returned (.tuple #[])∧STurn w g gs (stB g gs vp vf cs) room (setA cs (i+1) n) fr w':=by
  have HS:Hid (∀w',Kb w w'→Stm w' g gs vp vf room cs fr):=fun w' hb=>s.grow hb
  have c1:=s.c1;have HG:=hidden (get_any s hw ((i:Int)+1));have hot:cot cs ((i:Int)+1)=cc cs i:=by unfold cot;rw [if_pos (by omega),show ((i:Int)+1-1).toNat=i by omega]
  have hat:cat cs ((i:Int)+1)=ce cs i:=by unfold cat;rw [if_pos (by omega),show ((i:Int)+1-1).toNat=i by omega]
  rw [hot,if_neg (by omega),hat] at HG;have HSet:Hid (∀w',Kb w w'→Kc 270 #[.pointer (some ⟨gs,0,none⟩),.int .i64 ((i:Int)+1),.agg (cz (reAb (ce cs i) n)).toArray] w' fun e w''=>e=.returned (.int .i64 0)∧STurn w g gs (stB g gs vp vf cs) room (setA cs (i+1) n) fr w''):=by
    intro w' hb;refine (set_okC gs vp vf room _ fr _ i (cz (reAb (ce cs i) n)) (cz_th (reAb_ok (hw.ok i) n)) w' (s.grow hb).sl rfl (by rw [cnt_pl];exact hc)).mono ?_;rintro e w'' ⟨rfl,t⟩;rw [cnt_pl,map_set] at t;refine ⟨rfl,(s.grow hb).turn' hb t (fun j=>.inr ⟨j,?_⟩)⟩;have hcore:Core (ce cs j) (ce (setA cs (i+1) n) j):=setA_core cs (i+1) n j;rw [hcore];exact ⟨rfl,rfl⟩
  have HO:=hidden (hw.ok i);obtain ⟨c,hcc⟩:∃c,c=ce cs i:=⟨_,rfl⟩;rw [← hcc] at HG HSet HO hn;have hwn:wrap64 ((c.ab:Int)+m)=(n:Int):=by rw [hn];exact Go.IntWalk.wrap64_in _ (by omega)
  have HZA:=hidden (cz_setAb c HO.out.ld n);clear s hw hc hn hn2 hot hat hcc;go_enter Tryz.func230,Tryz.ntmps230
  go_wp2_with (first
    |(go_at_call 204;refine HG.out.mono ?_;rintro e w2 ⟨rfl,b2⟩;have Hb2:=hidden b2;clear b2)
    |((with_reducible refine at_ald 6 ?_);refine wpList_al _ rfl _ rfl _ zero_thC ?_;intro w3 b6 hg6 hl6 B6 b3;have Hb3:=hidden b3;have HB6:=hidden B6;have Hg6:=hidden hg6;clear b3 B6 hg6 hl6)
    |((with_reducible refine at_st 6 ?_);refine wpList_sto _ rfl _ _ _ rfl b6 _ (cz c).toArray rfl rfl HB6.out (xszC _ (cz_th HO.out)) (xzsC _ (cz_th HO.out)) (all_oneCell_toArray (cz_one HO.out)) ?_;intro w4 B7 g7;have c7:=B7.cell 33;have f7:=B7.frozen 33;simp only [List.getElem?_toArray] at c7;rw [(cz_at c HO.out).2.1] at c7;have HB7:=hidden B7;have Hb7:=hidden (below_row (grow_trans Hb2.out Hb3.out) g7 (by have:=Hg6.out;have:=Hb2.out.size;omega));clear B7 g7))
  have hb8:w.heap.size≤b6:=by have:=Hg6.out;have:=Hb2.out.size;omega
  have HB8:Hid (Blk (w4.setCell ⟨b6,33,none⟩ (.int .i64 (n:Int))) b6 150 (cz (reAb c n)).toArray):=by
    have:=HB7.out.set 33 (.int .i64 (n:Int));rw [List.setIfInBounds_toArray,HZA.out] at this;exact this
  have Hb8:=hidden (setCell_below 33 (.int .i64 (n:Int)) Hb7.out hb8);generalize w4.setCell ⟨b6,33,none⟩ (.int .i64 (n:Int))=w5 at *;have HB9:Hid (Kb w w5.drew):=below_drewN Hb8.out 1;have HS0:Hid (w5.drew.cell? ⟨g,1,none⟩=some (.pointer (some ⟨gs,0,none⟩))∧w5.drew.rangeAt b6 0 (cz (reAb c n))):=⟨(HS.out _ HB9.out).c1,HB8.out.drew.range⟩;refine wp_region_last (S:=fun w'=>w'.cell? ⟨g,1,none⟩=some (.pointer (some ⟨gs,0,none⟩))∧w'.rangeAt b6 0 (cz (reAb c n))) 6 (by kernel_rfl) (HS0.out) (fun hHeld=>?_);refine tlp 0 (.pointer (some ⟨g,0,none⟩)) hHeld ?_;simp only [Act.put,zq1,zq2,zq4,zq5,zq6];refine tlp 1 (.pointer (some ⟨g,0,none⟩)) hHeld ?_;simp only [Act.put,zq1,zq2,zq3,zq4,zq5,zq6];refine tlp 2 (.pointer (some ⟨g,1,none⟩)) hHeld ?_;simp only [Act.put,zq1,zq2,zq3,zq4,zq5,zq6];refine tlg 3 (.pointer (some ⟨gs,0,none⟩)) rfl (Or.inl ⟨by rfl,fun w hS=>by (have q1:=hS.1;go_simp)⟩) hHeld ?_;simp only [Act.put,zq1,zq2,zq3,zq4,zq5,zq6];refine tlp 4 (.int .i64 ((i:Int)+1)) hHeld ?_;simp only [Act.put,zq1,zq2,zq3,zq4,zq5,zq6];refine tlg 5 (.agg (cz (reAb c n)).toArray) rfl (yieldsIf_load_mid rfl 150 (.tmp 6) rfl b6 0 rfl (cz (reAb c n)) _ (fun w hS=>hS.2) Tryz.underlying150 rfl (xszC _ (cz_th (reAb_ok HO.out n)))) hHeld ?_;simp only [Act.put,zq1,zq2,zq3,zq4,zq5,zq6];refine wpAnyL_last rfl (by kernel_rfl) (by kernel_rfl) (fun KQ hK=>?_);go_simp;refine (HSet.out _ HB9.out).mono ?_;rintro e w9 ⟨rfl,ht⟩;have HT:=hidden ht;clear ht;refine hK.out _ _ ?_;clear hK KQ;go_wp2
  go_end0;exact ⟨rfl,HT.out⟩

end Go.Proofs.YtdjpigfibafokaaGreatDoor

namespace Go.Proofs.YtdjpigfibafokaaGreatDoor
variable {b g gs i room:Nat}
variable {cs:Lz}
variable {fr:List Nat}
variable {sp:Lq}
variable {v vf vp:Value}
variable {w w' w0 w1:World}
set_option maxHeartbeats 4000000
set_option maxRecDepth 20000
open Go.RowKit

def Kp (w:World) (P:World→Prop):Prop:=∀w',Kb w w'→P w'
theorem Kp.now {P:World→Prop} (h:Kp w P):P w:=h w (Below.refl _ _)
theorem Kp.step {P:World→Prop} (h:Kp w P) (q:Kb w w1):Kp w1 P:=fun w' h'=>h w' (grow_trans q h')
theorem Blk.kp {t:TypeId} {cs:Array Value} (h:Blk w g t cs):Kp w (fun w'=>Blk w' g t cs):=fun _ q=>h.grow q
theorem below_kp (w:World):Kp w (fun w'=>Kb w w'):=fun _ q=>q
end Go.Proofs.YtdjpigfibafokaaGreatDoor

namespace Go.Proofs.YtdjpigfibafokaaGreatDoor
variable {b g gs i room:Nat}
variable {cs:Lz}
variable {fr:List Nat}
variable {sp:Lq}
variable {v vf vp:Value}
variable {w w' w0 w1:World}
set_option maxHeartbeats 4000000
set_option maxRecDepth 20000
open Go.RowKit

theorem vDg_nat (cs:Lz) (h:Nat):vDg true (cat cs) (h:Int)=sdD cs h:=by
  unfold vDg sdD
  by_cases e:h=0
  · subst e
    simp
  · rw [if_neg (by omega),if_neg e,cat_nat,sdC,if_neg e]

theorem kp_cell {c:Ce} (h:Kp w (fun w'=>Blk w' b 150 (cz c).toArray)) (e:(cz c)[i]?=some v):∀w',Kb w w'→w'.cell? ⟨b,i,none⟩=some v:=fun w' hb=>by
  rw [(h w' hb).cell];simpa using e

theorem sjoin_any (s:Stm w g gs vp vf room cs fr) {pend:List Nat} (hw:Wf cs pend) (hL:Laid w) (d l r:Nat) (hd:d<256) (hsz:(sdC cs l).sz+(sdC cs r).sz≤1048576):Kc 268 #[.pointer (some ⟨g,0,none⟩),.int .i64 (d:Int),.int .i64 (l:Int),.int .i64 (r:Int)] w fun e w'=>∃K,IsFill (if (sdC cs l).kind=0 then (sdC cs r).key else (sdC cs l).key) d 0 K∧e=.returned (.agg (cz (inC (inD (sdD cs l) (sdD cs r)) K ((sdC cs l).sz+(sdC cs r).sz) d l r)).toArray)∧Kb w w':=by
  have V:=vw_ok s hw;have HAL:Hid (Kr w 125 #[.pointer (some ⟨g,0,none⟩),.int .i64 (l:Int)] (.agg (cz (sdC cs l)).toArray)):=fun w' hb=>by rw [← cat_nat];exact V.atv w' l hb
  have HAR:Hid (Kr w 125 #[.pointer (some ⟨g,0,none⟩),.int .i64 (r:Int)] (.agg (cz (sdC cs r)).toArray)):=fun w' hb=>by rw [← cat_nat];exact V.atv w' r hb
  have HDL:Hid (Kr w 68 #[.pointer (some ⟨g,0,none⟩),.int .i64 (l:Int)] (.agg (B (sdD cs l)))):=fun w' hb=>by rw [← vDg_nat];exact sdig_any (V.grow hb) l (hL.grow hb)
  have HDR:Hid (Kr w 68 #[.pointer (some ⟨g,0,none⟩),.int .i64 (r:Int)] (.agg (B (sdD cs r)))):=fun w' hb=>by rw [← vDg_nat];exact sdig_any (V.grow hb) r (hL.grow hb)
  have hl32:=vDg_len V (l:Int);have hr32:=vDg_len V (r:Int);rw [vDg_nat] at hl32 hr32;have HIN:Hid (Kr w 186 #[.agg (B (sdD cs l)),.agg (B (sdD cs r))] (.agg (B (inD (sdD cs l) (sdD cs r))))):=fun w' hb=>inner_any _ _ w' hl32.1 hr32.1 hl32.2 hr32.2 (hL.grow hb)
  have okL:CeOk (sdC cs l):=by rw [← cat_nat];exact hw.catOk l
  have okR:CeOk (sdC cs r):=by rw [← cat_nat];exact hw.catOk r
  have HOL:=hidden okL;have HOR:=hidden okR;have hD32:(inD (sdD cs l) (sdD cs r)).length=32:=dig_length _;have HDB:Hid (Bytes (inD (sdD cs l) (sdD cs r))):=dig_bytes _;generalize sdC cs l=L at *;generalize sdC cs r=R at *;generalize inD (sdD cs l) (sdD cs r)=D at *;generalize sdD cs l=dl at *;generalize sdD cs r=dr at *;have HD32:=hidden hD32;have HB0:Hid (Kp w (fun w'=>Kb w w')):=below_kp w;have hws:IntKind.i64.wrap ((L.sz:Int)+(R.sz:Int))=(L.sz:Int)+(R.sz:Int):=by simp only [IntKind.wrap_i64];omega
  obtain ⟨X,hX⟩:∃X,X=if L.kind=0 then R else L:=⟨_,rfl⟩
  have hXk:(if L.kind=0 then R.key else L.key)=X.key:=by rw [hX];split <;> rfl
  rw [hXk];have okX:CeOk X:=by rw [hX];split <;> assumption
  have HOX:=hidden okX;have HFI:Hid (∀w',Kc 304 #[.agg (B X.key),.int .i64 (d:Int)] w' (KeyPost (IsFill X.key d 0) 0 w')):=fun w'=>first_in X.key d w' okX.hk (by omega)
  have HWS:=hidden hws;have HXL:Hid (L.kind≠0→X=L):=fun h=>by rw [hX,if_neg h]
  have HXR:Hid (L.kind=0→X=R):=fun h=>by rw [hX,if_pos h]
  clear s hw hL V hl32 hr32 okL okR okX hD32 hws hX hXk hsz hd
  by_cases hk:L.kind=0
  · have HK:=hidden hk
    have hXe:=HXR.out hk;rw [hXe] at HFI;rw [hXe];clear hk HXL HXR hXe HOX;go_enter Tryz.func268,Tryz.ntmps268
    go_wp2_with (first
      |((with_reducible refine at_ald 8 ?_);refine wpList_al _ rfl _ rfl _ zero_thC ?_;intro y1 g8 hg8 hl8 B8 q1;replace HB0:=hidden (HB0.out.step q1);have HR8:=hidden B8.kp;have Hg8:=hidden hg8;clear hg8 hl8 B8 q1)
      |((with_reducible refine at_ald 9 ?_);refine wpList_al _ rfl _ rfl _ zero_thC ?_;intro y4 g9 hg9 hl9 bz9 q4;have Hg9:=hidden hg9;have HQ9:=hidden q4;have HZ9:=hidden bz9;have Hl9:=hidden hl9;clear hg9 hl9 bz9 q4)
      |((with_reducible refine at_ald 10 ?_);refine wpList_al _ rfl _ rfl _ zero_thC ?_;intro y5 g10 hg10 hl10 bz10 q5;have Hg10:=hidden hg10;have HZ10:=hidden bz10;have HZ9':=hidden (HZ9.out.grow q5);have hne:g10≠g9:=(by have:=Hl9.out;omega);have HQ10:=hidden q5;clear hg10 hl10 bz10 q5)
      |((with_reducible refine at_st 9 ?_);refine wpList_sto _ rfl _ _ _ rfl g9 _ (cz L).toArray rfl rfl HZ9'.out (xszC _ (cz_th HOL.out)) (xzsC _ (cz_th HOL.out)) (all_oneCell_toArray (cz_one HOL.out)) ?_;intro y6 by9 r9;have HY9:=hidden by9;have HZ10':=hidden (HZ10.out.kept r9 hne);have HR9:=hidden r9;clear by9 r9)
      |((with_reducible refine at_st 10 ?_);refine wpList_sto _ rfl _ _ _ rfl g10 _ (cz R).toArray rfl rfl HZ10'.out (xszC _ (cz_th HOR.out)) (xzsC _ (cz_th HOR.out)) (all_oneCell_toArray (cz_one HOR.out)) ?_;intro y7 by10 r10;have HLB:=hidden (HY9.out.kept r10 hne.symm).kp;have HRB:=hidden by10.kp;have q9:=HQ9.out;have q10:=HQ10.out;have qa:=below_row (grow_trans q9 q10) HR9.out Hg9.out;have qb:=below_row qa r10 (by have:=Hg10.out;have:=q9.size;omega);replace HB0:=hidden (HB0.out.step qb);replace HR8:=hidden (HR8.out.step qb);clear by10 r10 q9 q10 qa qb)
      |((with_reducible refine at_ldd 20 9 ?_);refine wpList_load_mid rfl _ _ rfl g9 0 rfl (cz L) _ HLB.out.now.range Tryz.underlying150 rfl (xszC _ (cz_th HOL.out)) ?_)
      |((with_reducible refine at_ald 11 ?_);refine wpList_al _ rfl _ rfl _ zero_thC ?_;intro y8 g11 hg11 hl11 bz11 q8;have Hg11:=hidden hg11;have HZ11:=hidden bz11;have HQ11:=hidden q8;clear hg11 hl11 bz11 q8)
      |((with_reducible refine at_ldd 24 10 ?_);refine wpList_load_mid rfl _ _ rfl g10 0 rfl (cz R) _ HRB1.out.range Tryz.underlying150 rfl (xszC _ (cz_th HOR.out)) ?_)
      |((with_reducible refine at_ldd 27 26 ?_);refine wpList_load_mid rfl _ _ rfl g11 35 rfl (R.key.map (Value.int .u8)) _ ((segK R HOR.out).range HXB.out.now) Tryz.underlying63 rfl (key_sz HOR.out) ?_)
      |((with_reducible refine at_ald 12 ?_);refine wpList_al _ rfl _ rfl _ zero_path ?_;intro y12 g12 hg12 hl12 bz12 q12;have Hg12:=hidden hg12;have HZ12:=hidden bz12;have HQ12:=hidden q12;clear hg12 hl12 bz12 q12)
      |((with_reducible refine at_st 12 ?_);refine wpList_sto _ rfl _ _ _ rfl g12 _ (B K) rfl rfl HZ12.out (by rw [HKZ.out];exact size_path) (by rw [HKZ.out,B_size];simp) (B_one _) ?_;intro y13 by12 r12;have qd:=below_row HQ12.out r12 Hg12.out;replace HB0:=hidden (HB0.out.step qd);replace HR8:=hidden (HR8.out.step qd);replace HLB:=hidden (HLB.out.step qd);replace HRB:=hidden (HRB.out.step qd);replace HXB:=hidden (HXB.out.step qd);have HKB:=hidden by12.kp;clear by12 r12 qd)
      |(go_at_call 125;have mk:=m1;clear mk;refine (HAR.out _ HB0.out.now).mono ?_;rintro e y3 ⟨rfl,q3⟩;replace HB0:=hidden (HB0.out.step q3);replace HR8:=hidden (HR8.out.step q3);clear q3)
      |(go_at_call 125;refine (HAL.out _ HB0.out.now).mono ?_;rintro e y2 ⟨rfl,q2⟩;replace HB0:=hidden (HB0.out.step q2);replace HR8:=hidden (HR8.out.step q2);have m1:Hid True:=trivial;clear q2)
      |((with_reducible refine at_st 11 ?_);have mk:=m2;clear mk;refine wpList_sto _ rfl _ _ _ rfl g11 _ (cz R).toArray rfl rfl HX0.out (xszC _ (cz_th HOR.out)) (by rw [List.size_toArray,List.size_toArray,cz_length HOL.out,cz_length HOR.out]) (all_oneCell_toArray (cz_one HOR.out)) ?_;intro y10 by12 r12;have qc:=below_row (below_row HQ11.out HRX.out Hg11.out) r12 Hg11.out;replace HB0:=hidden (HB0.out.step qc);replace HR8:=hidden (HR8.out.step qc);replace HLB:=hidden (HLB.out.step qc);replace HRB:=hidden (HRB.out.step qc);have HXB:=hidden by12.kp;clear by12 r12 qc)
      |((with_reducible refine at_st 11 ?_);refine wpList_sto _ rfl _ _ _ rfl g11 _ (cz L).toArray rfl rfl HZ11.out (xszC _ (cz_th HOL.out)) (xzsC _ (cz_th HOL.out)) (all_oneCell_toArray (cz_one HOL.out)) ?_;intro y9 by11 r11;have HX0:=hidden by11;have HRX:=hidden r11;have HLB1:=hidden ((HLB.out.step HQ11.out).now.kept r11 (by have:=HLB.out.now.lt;have:=Hg11.out;omega));have HRB1:=hidden ((HRB.out.step HQ11.out).now.kept r11 (by have:=HRB.out.now.lt;have:=Hg11.out;omega));have c9:=HLB1.out.cell 32;simp only [List.getElem?_toArray] at c9;rw [(cz_at L HOL.out).1,HK.out] at c9;have m2:Hid True:=trivial;clear by11 r11)
      |(go_at_call 304;refine (HFI.out _).mono ?_;rintro e y11 ⟨K,hKf,rfl,q11⟩;replace HB0:=hidden (HB0.out.step q11);replace HR8:=hidden (HR8.out.step q11);replace HLB:=hidden (HLB.out.step q11);replace HRB:=hidden (HRB.out.step q11);replace HXB:=hidden (HXB.out.step q11);have HKF:=hidden hKf;have HKZ:Hid ((B K).size=32):=(by show (B K).size=32;rw [B_size];exact hKf.1.1);clear q11 hKf))
    have HSZL:Hid (∀w',Kb y13 w'→w'.cell? ⟨g9,34,none⟩=some (.int .i64 (L.sz:Int))):=kp_cell HLB.out (cz_at L HOL.out).2.2.1;have HSZR:Hid (∀w',Kb y13 w'→w'.cell? ⟨g10,34,none⟩=some (.int .i64 (R.sz:Int))):=kp_cell HRB.out (cz_at R HOR.out).2.2.1;have HKR:Hid (∀w',Kb y13 w'→w'.rangeAt g12 0 (B K).toList):=fun w' hb=>(HKB.out w' hb).range
    have HBL:Hid (∀w',Kb y13 w'→Kb w w'):=HB0.out;have HS0:Hid (Kb y13 y13.drew):=below_drewN (Below.refl _ _) 1;have HBU:=hidden (built_in D K (L.sz+R.sz) d l r HD32.out (by have:=HKZ.out;rwa [B_size] at this));have HTI:Hid (Th (cz (inC D K (L.sz+R.sz) d l r))):=cz_th ⟨HD32.out,HDB.out,HKF.out.1,none,0,rfl⟩;refine wp_region_last (S:=fun w'=>Kb y13 w') 17 (by kernel_rfl) (HS0.out) (fun hHeld=>?_);refine tlp 0 (.pointer (some ⟨g,0,none⟩)) hHeld ?_;simp only [Act.put,zq1,zq2,zq4,zq5,zq6];refine tlp 1 (.int .i64 (l:Int)) hHeld ?_;simp only [Act.put,zq1,zq2,zq3,zq4,zq5,zq6];refine tlp 3 (.pointer (some ⟨g,0,none⟩)) hHeld ?_;simp only [Act.put,zq1,zq2,zq3,zq4,zq5,zq6];refine tlp 4 (.int .i64 (r:Int)) hHeld ?_;simp only [Act.put,zq1,zq2,zq3,zq4,zq5,zq6];refine tlp 7 (.pointer (some ⟨g9,34,none⟩)) hHeld ?_;simp only [Act.put,zq1,zq2,zq3,zq4,zq5,zq6];refine tlg 8 (.int .i64 (L.sz:Int)) rfl (Or.inl ⟨by rfl,fun w hS=>by (have q1:=HSZL.out _ hS;go_simp)⟩) hHeld ?_;simp only [Act.put,zq1,zq2,zq3,zq4,zq5,zq6];refine tlp 9 (.pointer (some ⟨g10,34,none⟩)) hHeld ?_;simp only [Act.put,zq1,zq2,zq3,zq4,zq5,zq6];refine tlg 10 (.int .i64 (R.sz:Int)) rfl (Or.inl ⟨by rfl,fun w hS=>by (have q1:=HSZR.out _ hS;go_simp)⟩) hHeld ?_;simp only [Act.put,zq1,zq2,zq3,zq4,zq5,zq6];refine tlg 11 (.int .i64 ((L.sz+R.sz:Nat):Int)) rfl (Or.inl ⟨by rfl,fun w hS=>by (go_simp;exact HWS.out)⟩) hHeld ?_;simp only [Act.put,zq1,zq2,zq3,zq4,zq5,zq6];refine tlg 12 (.agg (B K)) rfl (yieldsIf_load_mid rfl 63 (.tmp 12) rfl g12 (0) rfl (B K).toList _ (fun w hS=>HKR.out _ hS) Tryz.underlying63 rfl (by rw [Array.length_toList,HKZ.out];exact size_path)) hHeld ?_;simp only [Act.put,zq1,zq2,zq3,zq4,zq5,zq6];refine tlp 13 (.int .i64 (d:Int)) hHeld ?_;simp only [Act.put,zq1,zq2,zq3,zq4,zq5,zq6];refine tlp 14 (.int .i64 (l:Int)) hHeld ?_;simp only [Act.put,zq1,zq2,zq3,zq4,zq5,zq6];refine tlp 15 (.int .i64 (r:Int)) hHeld ?_;simp only [Act.put,zq1,zq2,zq3,zq4,zq5,zq6];refine wpAnyL_one (i:=2) rfl (by kernel_rfl) (fun KQ hK=>?_);go_simp;refine (HDL.out _ (HBL.out _ hHeld)).mono ?_;rintro e z1 ⟨rfl,a1⟩;refine hK.out _ _ (grow_trans hHeld a1) (fun hHeld=>?_);clear hK KQ;refine wpAnyL_one (i:=5) rfl (by kernel_rfl) (fun KQ hK=>?_);go_simp;refine (HDR.out _ (HBL.out _ hHeld)).mono ?_;rintro e z2 ⟨rfl,a2⟩;refine hK.out _ _ (grow_trans hHeld a2) (fun hHeld=>?_);clear hK KQ;refine wpAnyL_one (i:=6) rfl (by kernel_rfl) (fun KQ hK=>?_);go_simp;refine (HIN.out _ (HBL.out _ hHeld)).mono ?_;rintro e z3 ⟨rfl,a3⟩;refine hK.out _ _ (grow_trans hHeld a3) (fun hHeld=>?_);clear hK KQ;refine tlg 16 (.agg (cz (inC D K (L.sz+R.sz) d l r)).toArray) rfl (Or.inl ⟨by rfl,fun w hS=>exec_blc _ _ 150 _ (by rfl) _ (by rw [List.map_toArray];exact HBU.out) w⟩) hHeld ?_;simp only [Act.put,zq1,zq2,zq3,zq4,zq5,zq6];refine wpAnyL_last rfl (by kernel_rfl) (by kernel_rfl) (fun KQ hK=>?_);refine step_sto _ rfl _ _ _ rfl g8 _ (cz (inC D K (L.sz+R.sz) d l r)).toArray rfl rfl (HR8.out _ hHeld) (xszC _ HTI.out) (xzsC _ HTI.out) (all_oneCell_toArray HTI.out.2) ?_;intro z4 B9 r9;refine hK.out _ _ ?_;clear hK KQ;go_wp2
    exact bodyPost_ret (v:=.agg (cz (inC D K (L.sz+R.sz) d l r)).toArray) (results_cell_row rfl _ _ g8 _ _ _ _ rfl B9 Tryz.underlying150 rfl (xszC _ HTI.out)) rfl ⟨K,HKF.out,rfl,below_row (HBL.out _ hHeld) r9 Hg8.out⟩
  · have hXe:=HXL.out hk
    rw [hXe] at HFI;rw [hXe];obtain ⟨k,hkk⟩:∃k,k=L.kind:=⟨_,rfl⟩;have HKK:=hidden hkk;have hk0:(k == 0)=false:=by simp [hkk,hk]
    clear hk HXL HXR hkk hXe HOX;go_enter Tryz.func268,Tryz.ntmps268
    go_wp2_with (first
      |((with_reducible refine at_ald 8 ?_);refine wpList_al _ rfl _ rfl _ zero_thC ?_;intro y1 g8 hg8 hl8 B8 q1;replace HB0:=hidden (HB0.out.step q1);have HR8:=hidden B8.kp;have Hg8:=hidden hg8;clear hg8 hl8 B8 q1)
      |((with_reducible refine at_ald 9 ?_);refine wpList_al _ rfl _ rfl _ zero_thC ?_;intro y4 g9 hg9 hl9 bz9 q4;have Hg9:=hidden hg9;have HQ9:=hidden q4;have HZ9:=hidden bz9;have Hl9:=hidden hl9;clear hg9 hl9 bz9 q4)
      |((with_reducible refine at_ald 10 ?_);refine wpList_al _ rfl _ rfl _ zero_thC ?_;intro y5 g10 hg10 hl10 bz10 q5;have Hg10:=hidden hg10;have HZ10:=hidden bz10;have HZ9':=hidden (HZ9.out.grow q5);have hne:g10≠g9:=(by have:=Hl9.out;omega);have HQ10:=hidden q5;clear hg10 hl10 bz10 q5)
      |((with_reducible refine at_st 9 ?_);refine wpList_sto _ rfl _ _ _ rfl g9 _ (cz L).toArray rfl rfl HZ9'.out (xszC _ (cz_th HOL.out)) (xzsC _ (cz_th HOL.out)) (all_oneCell_toArray (cz_one HOL.out)) ?_;intro y6 by9 r9;have HY9:=hidden by9;have HZ10':=hidden (HZ10.out.kept r9 hne);have HR9:=hidden r9;clear by9 r9)
      |((with_reducible refine at_st 10 ?_);refine wpList_sto _ rfl _ _ _ rfl g10 _ (cz R).toArray rfl rfl HZ10'.out (xszC _ (cz_th HOR.out)) (xzsC _ (cz_th HOR.out)) (all_oneCell_toArray (cz_one HOR.out)) ?_;intro y7 by10 r10;have HLB:=hidden (HY9.out.kept r10 hne.symm).kp;have HRB:=hidden by10.kp;have q9:=HQ9.out;have q10:=HQ10.out;have qa:=below_row (grow_trans q9 q10) HR9.out Hg9.out;have qb:=below_row qa r10 (by have:=Hg10.out;have:=q9.size;omega);replace HB0:=hidden (HB0.out.step qb);replace HR8:=hidden (HR8.out.step qb);clear by10 r10 q9 q10 qa qb)
      |((with_reducible refine at_ldd 20 9 ?_);refine wpList_load_mid rfl _ _ rfl g9 0 rfl (cz L) _ HLB.out.now.range Tryz.underlying150 rfl (xszC _ (cz_th HOL.out)) ?_)
      |((with_reducible refine at_ald 11 ?_);refine wpList_al _ rfl _ rfl _ zero_thC ?_;intro y8 g11 hg11 hl11 bz11 q8;have Hg11:=hidden hg11;have HZ11:=hidden bz11;have HQ11:=hidden q8;clear hg11 hl11 bz11 q8)
      |((with_reducible refine at_ldd 27 26 ?_);refine wpList_load_mid rfl _ _ rfl g11 35 rfl (L.key.map (Value.int .u8)) _ ((segK L HOL.out).range HXB.out.now) Tryz.underlying63 rfl (key_sz HOL.out) ?_)
      |((with_reducible refine at_ald 12 ?_);refine wpList_al _ rfl _ rfl _ zero_path ?_;intro y12 g12 hg12 hl12 bz12 q12;have Hg12:=hidden hg12;have HZ12:=hidden bz12;have HQ12:=hidden q12;clear hg12 hl12 bz12 q12)
      |((with_reducible refine at_st 12 ?_);refine wpList_sto _ rfl _ _ _ rfl g12 _ (B K) rfl rfl HZ12.out (by rw [HKZ.out];exact size_path) (by rw [HKZ.out,B_size];simp) (B_one _) ?_;intro y13 by12 r12;have qd:=below_row HQ12.out r12 Hg12.out;replace HB0:=hidden (HB0.out.step qd);replace HR8:=hidden (HR8.out.step qd);replace HLB:=hidden (HLB.out.step qd);replace HRB:=hidden (HRB.out.step qd);replace HXB:=hidden (HXB.out.step qd);have HKB:=hidden by12.kp;clear by12 r12 qd)
      |(go_at_call 125;have mk:=m1;clear mk;refine (HAR.out _ HB0.out.now).mono ?_;rintro e y3 ⟨rfl,q3⟩;replace HB0:=hidden (HB0.out.step q3);replace HR8:=hidden (HR8.out.step q3);clear q3)
      |(go_at_call 125;refine (HAL.out _ HB0.out.now).mono ?_;rintro e y2 ⟨rfl,q2⟩;replace HB0:=hidden (HB0.out.step q2);replace HR8:=hidden (HR8.out.step q2);have m1:Hid True:=trivial;clear q2)
      |((with_reducible refine at_st 11 ?_);refine wpList_sto _ rfl _ _ _ rfl g11 _ (cz L).toArray rfl rfl HZ11.out (xszC _ (cz_th HOL.out)) (xzsC _ (cz_th HOL.out)) (all_oneCell_toArray (cz_one HOL.out)) ?_;intro y9 by11 r11;have qc:=below_row HQ11.out r11 Hg11.out;replace HB0:=hidden (HB0.out.step qc);replace HR8:=hidden (HR8.out.step qc);replace HLB:=hidden (HLB.out.step qc);replace HRB:=hidden (HRB.out.step qc);have HXB:=hidden by11.kp;have c9:=HLB.out.now.cell 32;simp only [List.getElem?_toArray] at c9;rw [(cz_at L HOL.out).1,← HKK.out] at c9;clear by11 r11 qc)
      |(go_at_call 304;refine (HFI.out _).mono ?_;rintro e y11 ⟨K,hKf,rfl,q11⟩;replace HB0:=hidden (HB0.out.step q11);replace HR8:=hidden (HR8.out.step q11);replace HLB:=hidden (HLB.out.step q11);replace HRB:=hidden (HRB.out.step q11);replace HXB:=hidden (HXB.out.step q11);have HKF:=hidden hKf;have HKZ:Hid ((B K).size=32):=(by show (B K).size=32;rw [B_size];exact hKf.1.1);clear q11 hKf))
    have HSZL:Hid (∀w',Kb y13 w'→w'.cell? ⟨g9,34,none⟩=some (.int .i64 (L.sz:Int))):=kp_cell HLB.out (cz_at L HOL.out).2.2.1;have HSZR:Hid (∀w',Kb y13 w'→w'.cell? ⟨g10,34,none⟩=some (.int .i64 (R.sz:Int))):=kp_cell HRB.out (cz_at R HOR.out).2.2.1;have HKR:Hid (∀w',Kb y13 w'→w'.rangeAt g12 0 (B K).toList):=fun w' hb=>(HKB.out w' hb).range
    have HBL:Hid (∀w',Kb y13 w'→Kb w w'):=HB0.out;have HS0:Hid (Kb y13 y13.drew):=below_drewN (Below.refl _ _) 1;have HBU:=hidden (built_in D K (L.sz+R.sz) d l r HD32.out (by have:=HKZ.out;rwa [B_size] at this));have HTI:Hid (Th (cz (inC D K (L.sz+R.sz) d l r))):=cz_th ⟨HD32.out,HDB.out,HKF.out.1,none,0,rfl⟩;refine wp_region_last (S:=fun w'=>Kb y13 w') 17 (by kernel_rfl) (HS0.out) (fun hHeld=>?_);refine tlp 0 (.pointer (some ⟨g,0,none⟩)) hHeld ?_;simp only [Act.put,zq1,zq2,zq4,zq5,zq6];refine tlp 1 (.int .i64 (l:Int)) hHeld ?_;simp only [Act.put,zq1,zq2,zq3,zq4,zq5,zq6];refine tlp 3 (.pointer (some ⟨g,0,none⟩)) hHeld ?_;simp only [Act.put,zq1,zq2,zq3,zq4,zq5,zq6];refine tlp 4 (.int .i64 (r:Int)) hHeld ?_;simp only [Act.put,zq1,zq2,zq3,zq4,zq5,zq6];refine tlp 7 (.pointer (some ⟨g9,34,none⟩)) hHeld ?_;simp only [Act.put,zq1,zq2,zq3,zq4,zq5,zq6];refine tlg 8 (.int .i64 (L.sz:Int)) rfl (Or.inl ⟨by rfl,fun w hS=>by (have q1:=HSZL.out _ hS;go_simp)⟩) hHeld ?_;simp only [Act.put,zq1,zq2,zq3,zq4,zq5,zq6];refine tlp 9 (.pointer (some ⟨g10,34,none⟩)) hHeld ?_;simp only [Act.put,zq1,zq2,zq3,zq4,zq5,zq6];refine tlg 10 (.int .i64 (R.sz:Int)) rfl (Or.inl ⟨by rfl,fun w hS=>by (have q1:=HSZR.out _ hS;go_simp)⟩) hHeld ?_;simp only [Act.put,zq1,zq2,zq3,zq4,zq5,zq6];refine tlg 11 (.int .i64 ((L.sz+R.sz:Nat):Int)) rfl (Or.inl ⟨by rfl,fun w hS=>by (go_simp;exact HWS.out)⟩) hHeld ?_;simp only [Act.put,zq1,zq2,zq3,zq4,zq5,zq6];refine tlg 12 (.agg (B K)) rfl (yieldsIf_load_mid rfl 63 (.tmp 12) rfl g12 (0) rfl (B K).toList _ (fun w hS=>HKR.out _ hS) Tryz.underlying63 rfl (by rw [Array.length_toList,HKZ.out];exact size_path)) hHeld ?_;simp only [Act.put,zq1,zq2,zq3,zq4,zq5,zq6];refine tlp 13 (.int .i64 (d:Int)) hHeld ?_;simp only [Act.put,zq1,zq2,zq3,zq4,zq5,zq6];refine tlp 14 (.int .i64 (l:Int)) hHeld ?_;simp only [Act.put,zq1,zq2,zq3,zq4,zq5,zq6];refine tlp 15 (.int .i64 (r:Int)) hHeld ?_;simp only [Act.put,zq1,zq2,zq3,zq4,zq5,zq6];refine wpAnyL_one (i:=2) rfl (by kernel_rfl) (fun KQ hK=>?_);go_simp;refine (HDL.out _ (HBL.out _ hHeld)).mono ?_;rintro e z1 ⟨rfl,a1⟩;refine hK.out _ _ (grow_trans hHeld a1) (fun hHeld=>?_);clear hK KQ;refine wpAnyL_one (i:=5) rfl (by kernel_rfl) (fun KQ hK=>?_);go_simp;refine (HDR.out _ (HBL.out _ hHeld)).mono ?_;rintro e z2 ⟨rfl,a2⟩;refine hK.out _ _ (grow_trans hHeld a2) (fun hHeld=>?_);clear hK KQ;refine wpAnyL_one (i:=6) rfl (by kernel_rfl) (fun KQ hK=>?_);go_simp;refine (HIN.out _ (HBL.out _ hHeld)).mono ?_;rintro e z3 ⟨rfl,a3⟩;refine hK.out _ _ (grow_trans hHeld a3) (fun hHeld=>?_);clear hK KQ;refine tlg 16 (.agg (cz (inC D K (L.sz+R.sz) d l r)).toArray) rfl (Or.inl ⟨by rfl,fun w hS=>exec_blc _ _ 150 _ (by rfl) _ (by rw [List.map_toArray];exact HBU.out) w⟩) hHeld ?_;simp only [Act.put,zq1,zq2,zq3,zq4,zq5,zq6];refine wpAnyL_last rfl (by kernel_rfl) (by kernel_rfl) (fun KQ hK=>?_);refine step_sto _ rfl _ _ _ rfl g8 _ (cz (inC D K (L.sz+R.sz) d l r)).toArray rfl rfl (HR8.out _ hHeld) (xszC _ HTI.out) (xzsC _ HTI.out) (all_oneCell_toArray HTI.out.2) ?_;intro z4 B9 r9;refine hK.out _ _ ?_;clear hK KQ;go_wp2
    exact bodyPost_ret (v:=.agg (cz (inC D K (L.sz+R.sz) d l r)).toArray) (results_cell_row rfl _ _ g8 _ _ _ _ rfl B9 Tryz.underlying150 rfl (xszC _ HTI.out)) rfl ⟨K,HKF.out,rfl,below_row (HBL.out _ hHeld) r9 Hg8.out⟩

end Go.Proofs.YtdjpigfibafokaaGreatDoor

namespace Go.Proofs.YtdjpigfibafokaaGreatDoor
variable {b g gs i room:Nat}
variable {cs:Lz}
variable {fr:List Nat}
variable {sp:Lq}
variable {v vf vp:Value}
variable {w w' w0 w1:World}
set_option maxHeartbeats 4000000
set_option maxRecDepth 20000
open Go.RowKit

theorem take_any (s:Stm w g gs vp vf room cs fr) (x:Ce) (hx:CeOk x) (hf: ¬Full room cs fr):Kc 265 #[.pointer (some ⟨gs,0,none⟩),.agg (cz x).toArray] w fun e w'=>e=.returned (.tuple #[.int .i64 (tkH cs fr:Int),.int .i64 0])∧TurnC w gs (slB gs vp vf) room ((tkC cs fr (1,x)).map pl) fr.dropLast w':=by
  rcases tk_cases cs fr with ⟨q,fr0,rfl,e1,e2⟩ | ⟨rfl,e1,e2⟩
  · rw [e1,e2,List.dropLast_concat,← map_set]
    exact take_freeC gs vp vf room _ fr0 q (cz x) (cz_th hx) w s.sl
  · rw [e1,e2,← map_snoc]
    have hl:(cs.map pl).length<room:=by
      have:=s.sl.inv.len;rw [List.length_map] at this ⊢;apply Nat.lt_of_not_le;intro h;exact hf ⟨rfl,h⟩
    have:=take_newC gs vp vf room _ (cz x) (cz_th hx) w s.sl hl;rw [List.length_map] at this;exact this
theorem take_none (s:Stm w g gs vp vf room cs fr) (x:Ce) (hx:CeOk x) (hf:Full room cs fr):Kc 265 #[.pointer (some ⟨gs,0,none⟩),.agg (cz x).toArray] w fun e w'=>e=.returned (.tuple #[.int .i64 0,.int .i64 9])∧Kb w w':=by
  obtain ⟨rfl,h⟩:=hf;have:=s.sl.inv.len;rw [List.length_map] at this;exact take_fullC gs vp vf room _ (cz x) (cz_th hx) w s.sl (by rw [List.length_map];omega)

theorem leaf_turn {x:Ce} (hb:Kb w0 w) (s:Stm w g gs vp vf room cs fr) (t:TurnC w gs (slB gs vp vf) room ((tkC cs fr (1,x)).map pl) fr.dropLast w') (ho:Own w0.heap.size w x.val x.bs sp):STurn w0 g gs (stB g gs vp vf cs) room (tkC cs fr (1,x)) fr.dropLast w':=by
  obtain ⟨_,tk⟩:=tk_of (frOk_inv s.sl.inv) (1,x);refine s.turn hb t (fun i=>?_) (fun i k hk=>?_)
  · rw [tk.ce]
    split
    · exact ⟨sp,ho.mono (Nat.zero_le _)⟩
    · exact s.vals i
  · rw [tk.ce] at hk
    split at hk
    · exact .inr (ho.lt k hk).1
    · exact .inl ⟨i,hk⟩

theorem slice_cells (a:Option Addr) (n k:Nat):(Value.slice a n k).cells= #[Value.slice a n k]:=rfl

theorem leafS_full (s:Stm w g gs vp vf room cs fr) (K:Lq) (v:Value) (bs:Lq) (hr:Reads w v bs) (hK:Key K) (hL:Laid w) (hl:bs.length≤1024) (hf:Full room cs fr):Kc 223 #[.pointer (some ⟨g,0,none⟩),.agg (B K),v] w fun e w'=>e=.returned (.tuple #[.int .i64 0,.int .i64 9])∧Kb w w':=by
  have HS:Hid (∀w',Kb w w'→Stm w' g gs vp vf room cs fr):=fun w' hb=>s.grow hb
  have HE:Hid (Kr w 264 #[.agg (B K),v] (.tuple #[.agg (B (lfD K (vaD bs))),.int .i64 0])):=fun w' hb=>entry_short K v bs w' hK.1 hK.2 (hr.grow hb) (hL.grow hb) hl
  have HR:Hid (∀w',Kb w w'→Reads w' v bs):=fun w' hb=>hr.grow hb
  have HKK:=hidden hK;have HKZ:Hid ((B K).size=32):=by show (B K).size=32;rw [B_size];exact hK.1
  have hD32:(lfD K (vaD bs)).length=32:=dig_length _;have hDb:Bytes (lfD K (vaD bs)):=dig_bytes _;generalize lfD K (vaD bs)=D at *;have HDZ:Hid ((B D).size=32):=by show _=_;rw [B_size];exact hD32
  have HD:=hidden hD32;have HDb:=hidden hDb;have HLE:=hidden hl;have HF:=hidden hf;clear s hr hL hl hK hD32 hDb hf;go_enter Tryz.func223,Tryz.ntmps223
  go_wp2_with (first
    |((with_reducible refine at_bxd 4 ?_);refine wpList_bx _ rfl _ _ rfl _ rfl ?_;intro w1 b4 hg4 hl4 B4 b1;have HB4:=hidden B4;have Hg4:=hidden hg4;have c0:=(HS.out _ b1).c0;clear hg4 hl4 B4)
    |(go_at_call 75;refine (madeS_ok g _ c0).mono ?_;rintro e w' ⟨rfl,hx⟩;rw [hx];clear hx w')
    |((with_reducible refine at_ldd 14 4 ?_);refine wpList_ld _ rfl _ _ rfl b4 _ rfl HB4.out _ _ Tryz.underlying63 (by rw [HKZ.out];exact size_path) ?_)
    |(go_at_call 264;refine (HE.out _ b1).mono ?_;rintro e w2 ⟨rfl,b2⟩;have Hb2:=hidden (grow_trans b1 b2);have HB4':=hidden (HB4.out.grow b2);clear b2)
    |((with_reducible refine at_ald 8 ?_);refine wpList_al _ rfl _ rfl _ zero_hash ?_;intro w3 b8 hg8 hl8 B8 b3;have HB8:=hidden B8;have Hg8:=hidden hg8;have Hb3:=hidden b3;have HB4n:=hidden (HB4'.out.grow b3);have hne:b4≠b8:=(by have:=HB4'.out.lt;omega);clear hg8 hl8 B8 b3)
    |((with_reducible refine at_st 8 ?_);refine wpList_sto _ rfl _ _ _ rfl b8 _ (B D) rfl rfl HB8.out (by rw [HDZ.out];exact size_hash) (by rw [HDZ.out,B_size];simp) (B_one _) ?_;intro w4 B9 r9;have HB9:=hidden B9;have HB4m:=hidden (HB4n.out.kept r9 hne);have Hb4:=hidden (below_row (grow_trans Hb2.out Hb3.out) r9 (by have:=Hg8.out;have:=Hb2.out.size;omega));clear B9 r9))
  have HBd:Hid (Kb w w4.drew):=below_drewN Hb4.out 1;have hnS:∀k,w.heap.size≤k→k ∉ stB g gs vp vf cs:=fun k hk e=>by
    have:=(HS.out w (Below.refl _ _)).lts k e;omega
  have HnS:=hidden hnS;have Hn4:Hid (w.heap.size≤b4):=Hg4.out;have Hn8:Hid (w.heap.size≤b8):=by
    show _≤_;have:=Hg8.out;have:=Hb2.out.size;omega
  clear hnS;have HS0:Hid (w4.drew.cell? ⟨g,1,none⟩=some (.pointer (some ⟨gs,0,none⟩))∧w4.drew.rangeAt b8 0 (B D).toList∧w4.drew.rangeAt b4 0 (B K).toList):=⟨(HS.out _ HBd.out).c1,HB9.out.drew.range,HB4m.out.drew.range⟩;refine wp_region_held_drew (S:=fun w'=>w'.cell? ⟨g,1,none⟩=some (.pointer (some ⟨gs,0,none⟩))∧w'.rangeAt b8 0 (B D).toList∧w'.rangeAt b4 0 (B K).toList) (by kernel_rfl) (HS0.out) (fun hHeld=>?_);refine tkp 0 (.pointer (some ⟨g,0,none⟩)) hHeld ?_;simp only [Act.put,zq1,zq2,zq4,zq5,zq6];refine tkp 1 (.pointer (some ⟨g,0,none⟩)) hHeld ?_;simp only [Act.put,zq1,zq2,zq3,zq4,zq5,zq6];refine tkp 2 (.pointer (some ⟨g,1,none⟩)) hHeld ?_;simp only [Act.put,zq1,zq2,zq3,zq4,zq5,zq6];refine tkg 3 (.pointer (some ⟨gs,0,none⟩)) rfl (Or.inl ⟨by rfl,fun w hS=>by (have q1:=hS.1;go_simp)⟩) hHeld ?_;simp only [Act.put,zq1,zq2,zq3,zq4,zq5,zq6];refine tkg 4 (.agg (B D)) rfl (yieldsIf_load_mid rfl 36 (.tmp 8) rfl b8 0 rfl (B D).toList _ (fun w hS=>hS.2.1) Tryz.underlying36 rfl (by rw [Array.length_toList,HDZ.out];exact size_hash)) hHeld ?_;simp only [Act.put,zq1,zq2,zq3,zq4,zq5,zq6];refine tkg 5 (.agg (B K)) rfl (yieldsIf_load_mid rfl 63 (.tmp 4) rfl b4 0 rfl (B K).toList _ (fun w hS=>hS.2.2) Tryz.underlying63 rfl (by rw [Array.length_toList,HKZ.out];exact size_path)) hHeld ?_;simp only [Act.put,zq1,zq2,zq3,zq4,zq5,zq6];refine tkp 6 v hHeld ?_;simp only [Act.put,zq1,zq2,zq3,zq4,zq5,zq6];refine wpAnyH_ready (rs:=[7]) (by kernel_rfl) (by simp) ?_;refine AllReadyH.cons rfl (fun KQ hK=>?_) AllReadyH.nil;go_simp;refine (clone_any v bs _ (HR.out _ HBd.out) (by have:=HLE.out;omega)).mono ?_;rintro e z1 ⟨v',sp,rfl,o1,a1⟩;have Ho:=hidden o1;have Ha:=hidden a1;obtain ⟨va,vk,rfl⟩:=Own.slice o1;clear o1 a1;refine hK.out _ _ (⟨(HS.out _ (grow_trans HBd.out Ha.out)).c1,((HB9.out.drew).grow Ha.out).range,((HB4m.out.drew).grow Ha.out).range⟩) (fun hHeld=>?_);clear hK KQ;have HBU:=hidden (built_lf D K (.slice va bs.length vk) bs HD.out HKK.out.1 (slice_cells _ _ _));have HOx:Hid (CeOk (lfC D K (.slice va bs.length vk) bs)):=⟨HD.out,HDb.out,HKK.out,va,vk,rfl⟩;refine tkg 8 (.agg (cz (lfC D K (.slice va bs.length vk) bs)).toArray) rfl (Or.inl ⟨by rfl,fun w hS=>exec_blc _ _ 150 _ (by rfl) _ (by rw [List.map_toArray];exact HBU.out) w⟩) hHeld ?_;simp only [Act.put,zq1,zq2,zq3,zq4,zq5,zq6];refine wpAnyH_ready (rs:=[9]) (by kernel_rfl) (by simp) ?_;refine AllReadyH.cons rfl (fun KQ hK=>?_) AllReadyH.nil;go_simp;refine (take_none (HS.out _ (grow_trans HBd.out Ha.out)) _ HOx.out HF.out).mono ?_;rintro e z2 ⟨rfl,a2⟩;have Ha2:=hidden (grow_trans Ha.out a2);clear a2;refine hK.out _ _ (⟨(HS.out _ (grow_trans HBd.out Ha2.out)).c1,((HB9.out.drew).grow Ha2.out).range,((HB4m.out.drew).grow Ha2.out).range⟩) (fun hHeld=>?_);clear hK KQ;refine tkp 10 (.int .i64 0) hHeld ?_;simp only [Act.put,zq1,zq2,zq3,zq4,zq5,zq6];refine tkp 11 (.int .i64 9) hHeld ?_;simp only [Act.put,zq1,zq2,zq3,zq4,zq5,zq6];refine wpAnyH_ready (rs:=[12]) (by kernel_rfl) (by simp) ?_;refine AllReadyH.cons rfl (fun KQ hK=>?_) AllReadyH.nil;go_simp;refine hK.out _ _ (hHeld) (fun hHeld=>?_);clear hK KQ;refine wpAnyH_ready (rs:=[13]) (by kernel_rfl) (by simp) ?_;refine AllReadyH.cons rfl (fun KQ hK=>?_) AllReadyH.nil;go_simp;refine hK.out _ _ (hHeld) (fun hHeld=>?_);clear hK KQ;refine wpAnyH_done (by kernel_rfl) ?_ _;go_wp2
  go_ret2;exact ⟨rfl,grow_trans HBd.out Ha2.out⟩

theorem leafS_ok (s:Stm w g gs vp vf room cs fr) (K:Lq) (v:Value) (bs:Lq) (hr:Reads w v bs) (hK:Key K) (hL:Laid w) (hl:bs.length≤1024) (hf: ¬Full room cs fr):Kc 223 #[.pointer (some ⟨g,0,none⟩),.agg (B K),v] w fun e w'=>∃v',e=.returned (.tuple #[.int .i64 (tkH cs fr:Int),.int .i64 0])∧CeOk (lfC (lfD K (vaD bs)) K v' bs)∧STurn w g gs (stB g gs vp vf cs) room (tkC cs fr (1,lfC (lfD K (vaD bs)) K v' bs)) fr.dropLast w':=by
  have HS:Hid (∀w',Kb w w'→Stm w' g gs vp vf room cs fr):=fun w' hb=>s.grow hb
  have HE:Hid (Kr w 264 #[.agg (B K),v] (.tuple #[.agg (B (lfD K (vaD bs))),.int .i64 0])):=fun w' hb=>entry_short K v bs w' hK.1 hK.2 (hr.grow hb) (hL.grow hb) hl
  have HR:Hid (∀w',Kb w w'→Reads w' v bs):=fun w' hb=>hr.grow hb
  have HKK:=hidden hK;have HKZ:Hid ((B K).size=32):=by show (B K).size=32;rw [B_size];exact hK.1
  have hD32:(lfD K (vaD bs)).length=32:=dig_length _;have hDb:Bytes (lfD K (vaD bs)):=dig_bytes _;generalize lfD K (vaD bs)=D at *;have HDZ:Hid ((B D).size=32):=by show _=_;rw [B_size];exact hD32
  have HD:=hidden hD32;have HDb:=hidden hDb;have HLE:=hidden hl;have HF:=hidden hf;clear s hr hL hl hK hD32 hDb hf;go_enter Tryz.func223,Tryz.ntmps223
  go_wp2_with (first
    |((with_reducible refine at_bxd 4 ?_);refine wpList_bx _ rfl _ _ rfl _ rfl ?_;intro w1 b4 hg4 hl4 B4 b1;have HB4:=hidden B4;have Hg4:=hidden hg4;have c0:=(HS.out _ b1).c0;clear hg4 hl4 B4)
    |(go_at_call 75;refine (madeS_ok g _ c0).mono ?_;rintro e w' ⟨rfl,hx⟩;rw [hx];clear hx w')
    |((with_reducible refine at_ldd 14 4 ?_);refine wpList_ld _ rfl _ _ rfl b4 _ rfl HB4.out _ _ Tryz.underlying63 (by rw [HKZ.out];exact size_path) ?_)
    |(go_at_call 264;refine (HE.out _ b1).mono ?_;rintro e w2 ⟨rfl,b2⟩;have Hb2:=hidden (grow_trans b1 b2);have HB4':=hidden (HB4.out.grow b2);clear b2)
    |((with_reducible refine at_ald 8 ?_);refine wpList_al _ rfl _ rfl _ zero_hash ?_;intro w3 b8 hg8 hl8 B8 b3;have HB8:=hidden B8;have Hg8:=hidden hg8;have Hb3:=hidden b3;have HB4n:=hidden (HB4'.out.grow b3);have hne:b4≠b8:=(by have:=HB4'.out.lt;omega);clear hg8 hl8 B8 b3)
    |((with_reducible refine at_st 8 ?_);refine wpList_sto _ rfl _ _ _ rfl b8 _ (B D) rfl rfl HB8.out (by rw [HDZ.out];exact size_hash) (by rw [HDZ.out,B_size];simp) (B_one _) ?_;intro w4 B9 r9;have HB9:=hidden B9;have HB4m:=hidden (HB4n.out.kept r9 hne);have Hb4:=hidden (below_row (grow_trans Hb2.out Hb3.out) r9 (by have:=Hg8.out;have:=Hb2.out.size;omega));clear B9 r9))
  have HBd:Hid (Kb w w4.drew):=below_drewN Hb4.out 1;have hnS:∀k,w.heap.size≤k→k ∉ stB g gs vp vf cs:=fun k hk e=>by
    have:=(HS.out w (Below.refl _ _)).lts k e;omega
  have HnS:=hidden hnS;have Hn4:Hid (w.heap.size≤b4):=Hg4.out;have Hn8:Hid (w.heap.size≤b8):=by
    show _≤_;have:=Hg8.out;have:=Hb2.out.size;omega
  clear hnS;have HS0:Hid (w4.drew.cell? ⟨g,1,none⟩=some (.pointer (some ⟨gs,0,none⟩))∧w4.drew.rangeAt b8 0 (B D).toList∧w4.drew.rangeAt b4 0 (B K).toList):=⟨(HS.out _ HBd.out).c1,HB9.out.drew.range,HB4m.out.drew.range⟩;refine wp_region_held_drew (S:=fun w'=>w'.cell? ⟨g,1,none⟩=some (.pointer (some ⟨gs,0,none⟩))∧w'.rangeAt b8 0 (B D).toList∧w'.rangeAt b4 0 (B K).toList) (by kernel_rfl) (HS0.out) (fun hHeld=>?_);refine tkp 0 (.pointer (some ⟨g,0,none⟩)) hHeld ?_;simp only [Act.put,zq1,zq2,zq4,zq5,zq6];refine tkp 1 (.pointer (some ⟨g,0,none⟩)) hHeld ?_;simp only [Act.put,zq1,zq2,zq3,zq4,zq5,zq6];refine tkp 2 (.pointer (some ⟨g,1,none⟩)) hHeld ?_;simp only [Act.put,zq1,zq2,zq3,zq4,zq5,zq6];refine tkg 3 (.pointer (some ⟨gs,0,none⟩)) rfl (Or.inl ⟨by rfl,fun w hS=>by (have q1:=hS.1;go_simp)⟩) hHeld ?_;simp only [Act.put,zq1,zq2,zq3,zq4,zq5,zq6];refine tkg 4 (.agg (B D)) rfl (yieldsIf_load_mid rfl 36 (.tmp 8) rfl b8 0 rfl (B D).toList _ (fun w hS=>hS.2.1) Tryz.underlying36 rfl (by rw [Array.length_toList,HDZ.out];exact size_hash)) hHeld ?_;simp only [Act.put,zq1,zq2,zq3,zq4,zq5,zq6];refine tkg 5 (.agg (B K)) rfl (yieldsIf_load_mid rfl 63 (.tmp 4) rfl b4 0 rfl (B K).toList _ (fun w hS=>hS.2.2) Tryz.underlying63 rfl (by rw [Array.length_toList,HKZ.out];exact size_path)) hHeld ?_;simp only [Act.put,zq1,zq2,zq3,zq4,zq5,zq6];refine tkp 6 v hHeld ?_;simp only [Act.put,zq1,zq2,zq3,zq4,zq5,zq6];refine wpAnyH_ready (rs:=[7]) (by kernel_rfl) (by simp) ?_;refine AllReadyH.cons rfl (fun KQ hK=>?_) AllReadyH.nil;go_simp;refine (clone_any v bs _ (HR.out _ HBd.out) (by have:=HLE.out;omega)).mono ?_;rintro e z1 ⟨v',sp,rfl,o1,a1⟩;have Ho:=hidden o1;have Ha:=hidden a1;obtain ⟨va,vk,rfl⟩:=Own.slice o1;clear o1 a1;refine hK.out _ _ (⟨(HS.out _ (grow_trans HBd.out Ha.out)).c1,((HB9.out.drew).grow Ha.out).range,((HB4m.out.drew).grow Ha.out).range⟩) (fun hHeld=>?_);clear hK KQ;have HBU:=hidden (built_lf D K (.slice va bs.length vk) bs HD.out HKK.out.1 (slice_cells _ _ _));have HOx:Hid (CeOk (lfC D K (.slice va bs.length vk) bs)):=⟨HD.out,HDb.out,HKK.out,va,vk,rfl⟩;refine tkg 8 (.agg (cz (lfC D K (.slice va bs.length vk) bs)).toArray) rfl (Or.inl ⟨by rfl,fun w hS=>exec_blc _ _ 150 _ (by rfl) _ (by rw [List.map_toArray];exact HBU.out) w⟩) hHeld ?_;simp only [Act.put,zq1,zq2,zq3,zq4,zq5,zq6];refine wpAnyH_ready (rs:=[9]) (by kernel_rfl) (by simp) ?_;refine AllReadyH.cons rfl (fun KQ hK=>?_) AllReadyH.nil;go_simp;refine (take_any (HS.out _ (grow_trans HBd.out Ha.out)) _ HOx.out HF.out).mono ?_;rintro e z2 ⟨rfl,t2⟩;have ht:STurn w g gs (stB g gs vp vf cs) room (tkC cs fr (1,lfC D K (.slice va bs.length vk) bs)) fr.dropLast z2:=leaf_turn (grow_trans HBd.out Ha.out) (HS.out _ (grow_trans HBd.out Ha.out)) t2 (Ho.out.mono HBd.out.size);have HT:=hidden ht;have Hm2:Hid (Mod (slB gs vp vf) z1 z2):=(by obtain ⟨_,_,_,m,_⟩:=t2;exact m);clear t2 ht;refine hK.out _ _ (⟨by obtain ⟨_,_,h1,_,_⟩:=HT.out;exact h1.c1,(((HB9.out.drew).grow Ha.out).mod Hm2.out (fun e=>HnS.out _ Hn8.out (stB_mem.2 (.inr (.inl e))))).range,(((HB4m.out.drew).grow Ha.out).mod Hm2.out (fun e=>HnS.out _ Hn4.out (stB_mem.2 (.inr (.inl e))))).range⟩) (fun hHeld=>?_);clear hK KQ;refine tkp 10 (.int .i64 (tkH cs fr:Int)) hHeld ?_;simp only [Act.put,zq1,zq2,zq3,zq4,zq5,zq6];refine tkp 11 (.int .i64 0) hHeld ?_;simp only [Act.put,zq1,zq2,zq3,zq4,zq5,zq6];refine wpAnyH_ready (rs:=[12]) (by kernel_rfl) (by simp) ?_;refine AllReadyH.cons rfl (fun KQ hK=>?_) AllReadyH.nil;go_simp;refine hK.out _ _ (hHeld) (fun hHeld=>?_);clear hK KQ;refine wpAnyH_ready (rs:=[13]) (by kernel_rfl) (by simp) ?_;refine AllReadyH.cons rfl (fun KQ hK=>?_) AllReadyH.nil;go_simp;refine hK.out _ _ (hHeld) (fun hHeld=>?_);clear hK KQ;refine wpAnyH_done (by kernel_rfl) ?_ _;go_wp2
  go_ret2;exact ⟨.slice va bs.length vk,rfl,HOx.out,HT.out⟩

end Go.Proofs.YtdjpigfibafokaaGreatDoor
